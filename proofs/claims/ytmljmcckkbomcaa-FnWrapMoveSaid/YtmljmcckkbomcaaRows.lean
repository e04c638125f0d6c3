/-
  No cell of these rows narrows 'for every input' (looked for: loops, veiled, ifaces, maps, wideKeys, modest, calm, conditions, laid).
  DERIVED. THE GIVEN ROWS OF THIS SEAT. 13 by the template 'for every input the law returns true; each argument reads behind the call as it read before'; 0 by the template 'total and deterministic' (their statements: YtmljmcckkbomcaaTotals.lean).
  GIVEN WITH THE SEED: the statements are not yours to turn. If you find one false, say at which input.
  Laid BY PROGRAM, IN A SANDBOX (cutbox-rows.mjs): the forced cells as the released guide's own fill.sh prints them over the translation a62fbf789a3602eb… (all of the seat's roots in one cut). By AI agents, Wed Nov 11 2026. No macro, syntax, notation, axiom, sorry.
-/
import Derived.Test.YtmljmcckkbomcaaChecked
import GoSem.Claim
import GoSem.ClaimJoined
import GoSem.ClaimMapViews
import Derived.JoinedTies
import Derived.KernelRfl
namespace Go.Proofs.Ytmljmcckkbomcaa
/- THE CELL 'sum', in the pinned program and in every row, IS THE sha256 OF THE DUMP (.gsa) THAT YtmljmcckkbomcaaProg.lean LOADS. Nothing in Lean hashes anything: it is a label: what it is worth is what the hold of that sum in a sandbox is worth. -/
noncomputable def Try.pinned : Pinned := { name := "ytmljmcckkbomcaa", sum := "a62fbf789a3602ebd98cb9a9ab349ad7fc85302c2a728199ffebf9485d801f78", checked := Try.checked }
namespace Rows
def none {H : Type} : Left H := { results := [], args := [] }

/-- 'laws.FnExactWrapCost': WHATEVER THE INPUT: true; the input reads as it did. -/
def fnExactWrapCostSpec : ChangeSpec := { name := "fnExactWrapCost", fn := fun _ => fun
  | [d1, d2, d3] => { results := [.lit (.bool true)], args := [d1, d2, d3] }
  | _ => none }
def fnExactWrapCostRow : OpenClaim := { program := "ytmljmcckkbomcaa", sum := "a62fbf789a3602ebd98cb9a9ab349ad7fc85302c2a728199ffebf9485d801f78", func := "loop.example/typesetting/laws.FnExactWrapCost", spec := "fnExactWrapCost", unfollowed := true, recurses := true, apart := false }
def FnExactWrapCostSaid : Prop := fnExactWrapCostRow.holds Try.pinned (OpenSpec.ofChange fnExactWrapCostSpec)

/-- ITS FALSE NEIGHBOUR: 'it returns false'. Refute it at one input. -/
def fnExactWrapCostWrong : ChangeSpec := { name := "fnExactWrapCost", fn := fun _ => fun
  | [d1, d2, d3] => { results := [.lit (.bool false)], args := [d1, d2, d3] }
  | _ => none }
def FnExactWrapCostWrongFalsely : Prop := fnExactWrapCostRow.holds Try.pinned (OpenSpec.ofChange fnExactWrapCostWrong)

/-- 'laws.FnExactWrapWords': WHATEVER THE INPUT: true; the input reads as it did. -/
def fnExactWrapWordsSpec : ChangeSpec := { name := "fnExactWrapWords", fn := fun _ => fun
  | [d1, d2] => { results := [.lit (.bool true)], args := [d1, d2] }
  | _ => none }
def fnExactWrapWordsRow : OpenClaim := { program := "ytmljmcckkbomcaa", sum := "a62fbf789a3602ebd98cb9a9ab349ad7fc85302c2a728199ffebf9485d801f78", func := "loop.example/typesetting/laws.FnExactWrapWords", spec := "fnExactWrapWords", unfollowed := true, recurses := true, apart := false }
def FnExactWrapWordsSaid : Prop := fnExactWrapWordsRow.holds Try.pinned (OpenSpec.ofChange fnExactWrapWordsSpec)

/-- ITS FALSE NEIGHBOUR: 'it returns false'. Refute it at one input. -/
def fnExactWrapWordsWrong : ChangeSpec := { name := "fnExactWrapWords", fn := fun _ => fun
  | [d1, d2] => { results := [.lit (.bool false)], args := [d1, d2] }
  | _ => none }
def FnExactWrapWordsWrongFalsely : Prop := fnExactWrapWordsRow.holds Try.pinned (OpenSpec.ofChange fnExactWrapWordsWrong)

/-- 'laws.FnExactFillText': WHATEVER THE INPUT: true; the input reads as it did. -/
def fnExactFillTextSpec : ChangeSpec := { name := "fnExactFillText", fn := fun _ => fun
  | [d1, d2] => { results := [.lit (.bool true)], args := [d1, d2] }
  | _ => none }
def fnExactFillTextRow : OpenClaim := { program := "ytmljmcckkbomcaa", sum := "a62fbf789a3602ebd98cb9a9ab349ad7fc85302c2a728199ffebf9485d801f78", func := "loop.example/typesetting/laws.FnExactFillText", spec := "fnExactFillText", inPlace := ["internal/abi.NoEscape", "internal/bytealg.MakeNoZero"], unfollowed := true, recurses := true, apart := false }
def FnExactFillTextSaid : Prop := fnExactFillTextRow.holds Try.pinned (OpenSpec.ofChange fnExactFillTextSpec)

/-- ITS FALSE NEIGHBOUR: 'it returns false'. Refute it at one input. -/
def fnExactFillTextWrong : ChangeSpec := { name := "fnExactFillText", fn := fun _ => fun
  | [d1, d2] => { results := [.lit (.bool false)], args := [d1, d2] }
  | _ => none }
def FnExactFillTextWrongFalsely : Prop := fnExactFillTextRow.holds Try.pinned (OpenSpec.ofChange fnExactFillTextWrong)

/-- 'laws.FnWrapWords': WHATEVER THE INPUT: true; the input reads as it did. -/
def fnWrapWordsSpec : ChangeSpec := { name := "fnWrapWords", fn := fun _ => fun
  | [d] => { results := [.lit (.bool true)], args := [d] }
  | _ => none }
def fnWrapWordsRow : OpenClaim := { program := "ytmljmcckkbomcaa", sum := "a62fbf789a3602ebd98cb9a9ab349ad7fc85302c2a728199ffebf9485d801f78", func := "loop.example/typesetting/laws.FnWrapWords", spec := "fnWrapWords", unfollowed := true, recurses := true, apart := false }
def FnWrapWordsSaid : Prop := fnWrapWordsRow.holds Try.pinned (OpenSpec.ofChange fnWrapWordsSpec)

/-- ITS FALSE NEIGHBOUR: 'it returns false'. Refute it at one input. -/
def fnWrapWordsWrong : ChangeSpec := { name := "fnWrapWords", fn := fun _ => fun
  | [d] => { results := [.lit (.bool false)], args := [d] }
  | _ => none }
def FnWrapWordsWrongFalsely : Prop := fnWrapWordsRow.holds Try.pinned (OpenSpec.ofChange fnWrapWordsWrong)

/-- 'laws.FnWrapBest': WHATEVER THE INPUT: true; the input reads as it did. -/
def fnWrapBestSpec : ChangeSpec := { name := "fnWrapBest", fn := fun _ => fun
  | [d] => { results := [.lit (.bool true)], args := [d] }
  | _ => none }
def fnWrapBestRow : OpenClaim := { program := "ytmljmcckkbomcaa", sum := "a62fbf789a3602ebd98cb9a9ab349ad7fc85302c2a728199ffebf9485d801f78", func := "loop.example/typesetting/laws.FnWrapBest", spec := "fnWrapBest", unfollowed := true, recurses := true, apart := false }
def FnWrapBestSaid : Prop := fnWrapBestRow.holds Try.pinned (OpenSpec.ofChange fnWrapBestSpec)

/-- ITS FALSE NEIGHBOUR: 'it returns false'. Refute it at one input. -/
def fnWrapBestWrong : ChangeSpec := { name := "fnWrapBest", fn := fun _ => fun
  | [d] => { results := [.lit (.bool false)], args := [d] }
  | _ => none }
def FnWrapBestWrongFalsely : Prop := fnWrapBestRow.holds Try.pinned (OpenSpec.ofChange fnWrapBestWrong)

/-- 'laws.FnWrapOne': WHATEVER THE INPUT: true; the input reads as it did. -/
def fnWrapOneSpec : ChangeSpec := { name := "fnWrapOne", fn := fun _ => fun
  | [d] => { results := [.lit (.bool true)], args := [d] }
  | _ => none }
def fnWrapOneRow : OpenClaim := { program := "ytmljmcckkbomcaa", sum := "a62fbf789a3602ebd98cb9a9ab349ad7fc85302c2a728199ffebf9485d801f78", func := "loop.example/typesetting/laws.FnWrapOne", spec := "fnWrapOne", unfollowed := true, recurses := true, apart := false }
def FnWrapOneSaid : Prop := fnWrapOneRow.holds Try.pinned (OpenSpec.ofChange fnWrapOneSpec)

/-- ITS FALSE NEIGHBOUR: 'it returns false'. Refute it at one input. -/
def fnWrapOneWrong : ChangeSpec := { name := "fnWrapOne", fn := fun _ => fun
  | [d] => { results := [.lit (.bool false)], args := [d] }
  | _ => none }
def FnWrapOneWrongFalsely : Prop := fnWrapOneRow.holds Try.pinned (OpenSpec.ofChange fnWrapOneWrong)

/-- 'laws.FnWrapCost': WHATEVER THE INPUT: true; the input reads as it did. -/
def fnWrapCostSpec : ChangeSpec := { name := "fnWrapCost", fn := fun _ => fun
  | [d] => { results := [.lit (.bool true)], args := [d] }
  | _ => none }
def fnWrapCostRow : OpenClaim := { program := "ytmljmcckkbomcaa", sum := "a62fbf789a3602ebd98cb9a9ab349ad7fc85302c2a728199ffebf9485d801f78", func := "loop.example/typesetting/laws.FnWrapCost", spec := "fnWrapCost", unfollowed := true, recurses := true, apart := false }
def FnWrapCostSaid : Prop := fnWrapCostRow.holds Try.pinned (OpenSpec.ofChange fnWrapCostSpec)

/-- ITS FALSE NEIGHBOUR: 'it returns false'. Refute it at one input. -/
def fnWrapCostWrong : ChangeSpec := { name := "fnWrapCost", fn := fun _ => fun
  | [d] => { results := [.lit (.bool false)], args := [d] }
  | _ => none }
def FnWrapCostWrongFalsely : Prop := fnWrapCostRow.holds Try.pinned (OpenSpec.ofChange fnWrapCostWrong)

/-- 'laws.FnFillText': WHATEVER THE INPUT: true; the input reads as it did. -/
def fnFillTextSpec : ChangeSpec := { name := "fnFillText", fn := fun _ => fun
  | [d] => { results := [.lit (.bool true)], args := [d] }
  | _ => none }
def fnFillTextRow : OpenClaim := { program := "ytmljmcckkbomcaa", sum := "a62fbf789a3602ebd98cb9a9ab349ad7fc85302c2a728199ffebf9485d801f78", func := "loop.example/typesetting/laws.FnFillText", spec := "fnFillText", inPlace := ["internal/abi.NoEscape", "internal/bytealg.MakeNoZero"], unfollowed := true, recurses := true, apart := false }
def FnFillTextSaid : Prop := fnFillTextRow.holds Try.pinned (OpenSpec.ofChange fnFillTextSpec)

/-- ITS FALSE NEIGHBOUR: 'it returns false'. Refute it at one input. -/
def fnFillTextWrong : ChangeSpec := { name := "fnFillText", fn := fun _ => fun
  | [d] => { results := [.lit (.bool false)], args := [d] }
  | _ => none }
def FnFillTextWrongFalsely : Prop := fnFillTextRow.holds Try.pinned (OpenSpec.ofChange fnFillTextWrong)

/-- 'laws.FnFillLast': WHATEVER THE INPUT: true; the input reads as it did. -/
def fnFillLastSpec : ChangeSpec := { name := "fnFillLast", fn := fun _ => fun
  | [d] => { results := [.lit (.bool true)], args := [d] }
  | _ => none }
def fnFillLastRow : OpenClaim := { program := "ytmljmcckkbomcaa", sum := "a62fbf789a3602ebd98cb9a9ab349ad7fc85302c2a728199ffebf9485d801f78", func := "loop.example/typesetting/laws.FnFillLast", spec := "fnFillLast", inPlace := ["internal/abi.NoEscape", "internal/bytealg.MakeNoZero"], unfollowed := true, recurses := true, apart := false }
def FnFillLastSaid : Prop := fnFillLastRow.holds Try.pinned (OpenSpec.ofChange fnFillLastSpec)

/-- ITS FALSE NEIGHBOUR: 'it returns false'. Refute it at one input. -/
def fnFillLastWrong : ChangeSpec := { name := "fnFillLast", fn := fun _ => fun
  | [d] => { results := [.lit (.bool false)], args := [d] }
  | _ => none }
def FnFillLastWrongFalsely : Prop := fnFillLastRow.holds Try.pinned (OpenSpec.ofChange fnFillLastWrong)

/-- 'laws.FnWrapMove': WHATEVER THE INPUT: true; the input reads as it did. -/
def fnWrapMoveSpec : ChangeSpec := { name := "fnWrapMove", fn := fun _ => fun
  | [d] => { results := [.lit (.bool true)], args := [d] }
  | _ => none }
def fnWrapMoveRow : OpenClaim := { program := "ytmljmcckkbomcaa", sum := "a62fbf789a3602ebd98cb9a9ab349ad7fc85302c2a728199ffebf9485d801f78", func := "loop.example/typesetting/laws.FnWrapMove", spec := "fnWrapMove", unfollowed := true, recurses := true, apart := false }
def FnWrapMoveSaid : Prop := fnWrapMoveRow.holds Try.pinned (OpenSpec.ofChange fnWrapMoveSpec)

/-- ITS FALSE NEIGHBOUR: 'it returns false'. Refute it at one input. -/
def fnWrapMoveWrong : ChangeSpec := { name := "fnWrapMove", fn := fun _ => fun
  | [d] => { results := [.lit (.bool false)], args := [d] }
  | _ => none }
def FnWrapMoveWrongFalsely : Prop := fnWrapMoveRow.holds Try.pinned (OpenSpec.ofChange fnWrapMoveWrong)

/-- 'laws.FnExactReplaceItems': WHATEVER THE INPUT: true; the input reads as it did. -/
def fnExactReplaceItemsSpec : ChangeSpec := { name := "fnExactReplaceItems", fn := fun _ => fun
  | [d1, d2, d3, d4] => { results := [.lit (.bool true)], args := [d1, d2, d3, d4] }
  | _ => none }
def fnExactReplaceItemsRow : OpenClaim := { program := "ytmljmcckkbomcaa", sum := "a62fbf789a3602ebd98cb9a9ab349ad7fc85302c2a728199ffebf9485d801f78", func := "loop.example/typesetting/laws.FnExactReplaceItems", spec := "fnExactReplaceItems", unfollowed := true, recurses := true, apart := false }
def FnExactReplaceItemsSaid : Prop := fnExactReplaceItemsRow.holds Try.pinned (OpenSpec.ofChange fnExactReplaceItemsSpec)

/-- ITS FALSE NEIGHBOUR: 'it returns false'. Refute it at one input. -/
def fnExactReplaceItemsWrong : ChangeSpec := { name := "fnExactReplaceItems", fn := fun _ => fun
  | [d1, d2, d3, d4] => { results := [.lit (.bool false)], args := [d1, d2, d3, d4] }
  | _ => none }
def FnExactReplaceItemsWrongFalsely : Prop := fnExactReplaceItemsRow.holds Try.pinned (OpenSpec.ofChange fnExactReplaceItemsWrong)

/-- 'laws.FnReplaceItems': WHATEVER THE INPUT: true; the input reads as it did. -/
def fnReplaceItemsSpec : ChangeSpec := { name := "fnReplaceItems", fn := fun _ => fun
  | [d] => { results := [.lit (.bool true)], args := [d] }
  | _ => none }
def fnReplaceItemsRow : OpenClaim := { program := "ytmljmcckkbomcaa", sum := "a62fbf789a3602ebd98cb9a9ab349ad7fc85302c2a728199ffebf9485d801f78", func := "loop.example/typesetting/laws.FnReplaceItems", spec := "fnReplaceItems", unfollowed := true, recurses := true, apart := false }
def FnReplaceItemsSaid : Prop := fnReplaceItemsRow.holds Try.pinned (OpenSpec.ofChange fnReplaceItemsSpec)

/-- ITS FALSE NEIGHBOUR: 'it returns false'. Refute it at one input. -/
def fnReplaceItemsWrong : ChangeSpec := { name := "fnReplaceItems", fn := fun _ => fun
  | [d] => { results := [.lit (.bool false)], args := [d] }
  | _ => none }
def FnReplaceItemsWrongFalsely : Prop := fnReplaceItemsRow.holds Try.pinned (OpenSpec.ofChange fnReplaceItemsWrong)

/-- 'laws.FnReplaceBack': WHATEVER THE INPUT: true; the input reads as it did. -/
def fnReplaceBackSpec : ChangeSpec := { name := "fnReplaceBack", fn := fun _ => fun
  | [d] => { results := [.lit (.bool true)], args := [d] }
  | _ => none }
def fnReplaceBackRow : OpenClaim := { program := "ytmljmcckkbomcaa", sum := "a62fbf789a3602ebd98cb9a9ab349ad7fc85302c2a728199ffebf9485d801f78", func := "loop.example/typesetting/laws.FnReplaceBack", spec := "fnReplaceBack", unfollowed := true, recurses := true, apart := false }
def FnReplaceBackSaid : Prop := fnReplaceBackRow.holds Try.pinned (OpenSpec.ofChange fnReplaceBackSpec)

/-- ITS FALSE NEIGHBOUR: 'it returns false'. Refute it at one input. -/
def fnReplaceBackWrong : ChangeSpec := { name := "fnReplaceBack", fn := fun _ => fun
  | [d] => { results := [.lit (.bool false)], args := [d] }
  | _ => none }
def FnReplaceBackWrongFalsely : Prop := fnReplaceBackRow.holds Try.pinned (OpenSpec.ofChange fnReplaceBackWrong)

/- THE SECOND FORM. 'bulk': how many values and letters a reading holds, each counted each time it is reached (what is shared counts as often as it is met; a slice's spare places count too). A statement '..UptoSaid' is the law's where the arguments, and the package variables that the reading takes, are together of bulk at most 1048576: NARROWER than '..Said'. Prove '..Said' where nothing that the law and all that it calls make is longer than what came in: it says more and counts as full. Else prove '..UptoSaid'. A law counts once. -/
mutual
def uptoBulk {H : Type} : DataW H → Nat
  | .lit (.string bytes) => bytes.length + 1
  | .lit _ => 1
  | .nil => 1
  | .ptr d => uptoBulk d + 1
  | .slice elems spare => uptoBulkAll elems + uptoBulkAll spare + 1
  | .agg parts => uptoBulkAll parts + 1
  | .iface _ d => uptoBulk d + 1
  | .map entries => uptoBulkEntries entries + 1
  | .held _ => 1
def uptoBulkAll {H : Type} : List (DataW H) → Nat
  | [] => 0
  | d :: r => uptoBulk d + uptoBulkAll r
def uptoBulkEntries {H : Type} : List (Lit × DataW H) → Nat
  | [] => 0
  | x :: r => uptoBulkEntry x + uptoBulkEntries r
def uptoBulkEntry {H : Type} : Lit × DataW H → Nat
  | (.string bytes, d) => bytes.length + uptoBulk d + 1
  | (_, d) => uptoBulk d + 1
 end
def uptoSmall : (H : Type) → List (DataW H) → Bool := fun _ ds => decide (uptoBulkAll ds ≤ 1048576)
def OpenSpec.upto (s : _root_.Go.ChangeSpec) : _root_.Go.OpenSpec := { _root_.Go.OpenSpec.ofChange s with cond := some uptoSmall }

/-- 'laws.FnExactWrapCost', WHERE WHAT IT READS IS OF BULK AT MOST 1048576: true; the input reads as it did. -/
def fnExactWrapCostUptoRow : OpenClaim := { program := "ytmljmcckkbomcaa", sum := "a62fbf789a3602ebd98cb9a9ab349ad7fc85302c2a728199ffebf9485d801f78", func := "loop.example/typesetting/laws.FnExactWrapCost", spec := "fnExactWrapCost", unfollowed := true, recurses := true, apart := false, narrowed := true }
def FnExactWrapCostUptoSaid : Prop := fnExactWrapCostUptoRow.holds Try.pinned (OpenSpec.upto fnExactWrapCostSpec)

/-- 'laws.FnExactWrapWords', WHERE WHAT IT READS IS OF BULK AT MOST 1048576: true; the input reads as it did. -/
def fnExactWrapWordsUptoRow : OpenClaim := { program := "ytmljmcckkbomcaa", sum := "a62fbf789a3602ebd98cb9a9ab349ad7fc85302c2a728199ffebf9485d801f78", func := "loop.example/typesetting/laws.FnExactWrapWords", spec := "fnExactWrapWords", unfollowed := true, recurses := true, apart := false, narrowed := true }
def FnExactWrapWordsUptoSaid : Prop := fnExactWrapWordsUptoRow.holds Try.pinned (OpenSpec.upto fnExactWrapWordsSpec)

/-- 'laws.FnExactFillText', WHERE WHAT IT READS IS OF BULK AT MOST 1048576: true; the input reads as it did. -/
def fnExactFillTextUptoRow : OpenClaim := { program := "ytmljmcckkbomcaa", sum := "a62fbf789a3602ebd98cb9a9ab349ad7fc85302c2a728199ffebf9485d801f78", func := "loop.example/typesetting/laws.FnExactFillText", spec := "fnExactFillText", inPlace := ["internal/abi.NoEscape", "internal/bytealg.MakeNoZero"], unfollowed := true, recurses := true, apart := false, narrowed := true }
def FnExactFillTextUptoSaid : Prop := fnExactFillTextUptoRow.holds Try.pinned (OpenSpec.upto fnExactFillTextSpec)

/-- 'laws.FnWrapWords', WHERE WHAT IT READS IS OF BULK AT MOST 1048576: true; the input reads as it did. -/
def fnWrapWordsUptoRow : OpenClaim := { program := "ytmljmcckkbomcaa", sum := "a62fbf789a3602ebd98cb9a9ab349ad7fc85302c2a728199ffebf9485d801f78", func := "loop.example/typesetting/laws.FnWrapWords", spec := "fnWrapWords", unfollowed := true, recurses := true, apart := false, narrowed := true }
def FnWrapWordsUptoSaid : Prop := fnWrapWordsUptoRow.holds Try.pinned (OpenSpec.upto fnWrapWordsSpec)

/-- 'laws.FnWrapBest', WHERE WHAT IT READS IS OF BULK AT MOST 1048576: true; the input reads as it did. -/
def fnWrapBestUptoRow : OpenClaim := { program := "ytmljmcckkbomcaa", sum := "a62fbf789a3602ebd98cb9a9ab349ad7fc85302c2a728199ffebf9485d801f78", func := "loop.example/typesetting/laws.FnWrapBest", spec := "fnWrapBest", unfollowed := true, recurses := true, apart := false, narrowed := true }
def FnWrapBestUptoSaid : Prop := fnWrapBestUptoRow.holds Try.pinned (OpenSpec.upto fnWrapBestSpec)

/-- 'laws.FnWrapOne', WHERE WHAT IT READS IS OF BULK AT MOST 1048576: true; the input reads as it did. -/
def fnWrapOneUptoRow : OpenClaim := { program := "ytmljmcckkbomcaa", sum := "a62fbf789a3602ebd98cb9a9ab349ad7fc85302c2a728199ffebf9485d801f78", func := "loop.example/typesetting/laws.FnWrapOne", spec := "fnWrapOne", unfollowed := true, recurses := true, apart := false, narrowed := true }
def FnWrapOneUptoSaid : Prop := fnWrapOneUptoRow.holds Try.pinned (OpenSpec.upto fnWrapOneSpec)

/-- 'laws.FnWrapCost', WHERE WHAT IT READS IS OF BULK AT MOST 1048576: true; the input reads as it did. -/
def fnWrapCostUptoRow : OpenClaim := { program := "ytmljmcckkbomcaa", sum := "a62fbf789a3602ebd98cb9a9ab349ad7fc85302c2a728199ffebf9485d801f78", func := "loop.example/typesetting/laws.FnWrapCost", spec := "fnWrapCost", unfollowed := true, recurses := true, apart := false, narrowed := true }
def FnWrapCostUptoSaid : Prop := fnWrapCostUptoRow.holds Try.pinned (OpenSpec.upto fnWrapCostSpec)

/-- 'laws.FnFillText', WHERE WHAT IT READS IS OF BULK AT MOST 1048576: true; the input reads as it did. -/
def fnFillTextUptoRow : OpenClaim := { program := "ytmljmcckkbomcaa", sum := "a62fbf789a3602ebd98cb9a9ab349ad7fc85302c2a728199ffebf9485d801f78", func := "loop.example/typesetting/laws.FnFillText", spec := "fnFillText", inPlace := ["internal/abi.NoEscape", "internal/bytealg.MakeNoZero"], unfollowed := true, recurses := true, apart := false, narrowed := true }
def FnFillTextUptoSaid : Prop := fnFillTextUptoRow.holds Try.pinned (OpenSpec.upto fnFillTextSpec)

/-- 'laws.FnFillLast', WHERE WHAT IT READS IS OF BULK AT MOST 1048576: true; the input reads as it did. -/
def fnFillLastUptoRow : OpenClaim := { program := "ytmljmcckkbomcaa", sum := "a62fbf789a3602ebd98cb9a9ab349ad7fc85302c2a728199ffebf9485d801f78", func := "loop.example/typesetting/laws.FnFillLast", spec := "fnFillLast", inPlace := ["internal/abi.NoEscape", "internal/bytealg.MakeNoZero"], unfollowed := true, recurses := true, apart := false, narrowed := true }
def FnFillLastUptoSaid : Prop := fnFillLastUptoRow.holds Try.pinned (OpenSpec.upto fnFillLastSpec)

/-- 'laws.FnWrapMove', WHERE WHAT IT READS IS OF BULK AT MOST 1048576: true; the input reads as it did. -/
def fnWrapMoveUptoRow : OpenClaim := { program := "ytmljmcckkbomcaa", sum := "a62fbf789a3602ebd98cb9a9ab349ad7fc85302c2a728199ffebf9485d801f78", func := "loop.example/typesetting/laws.FnWrapMove", spec := "fnWrapMove", unfollowed := true, recurses := true, apart := false, narrowed := true }
def FnWrapMoveUptoSaid : Prop := fnWrapMoveUptoRow.holds Try.pinned (OpenSpec.upto fnWrapMoveSpec)

/-- 'laws.FnExactReplaceItems', WHERE WHAT IT READS IS OF BULK AT MOST 1048576: true; the input reads as it did. -/
def fnExactReplaceItemsUptoRow : OpenClaim := { program := "ytmljmcckkbomcaa", sum := "a62fbf789a3602ebd98cb9a9ab349ad7fc85302c2a728199ffebf9485d801f78", func := "loop.example/typesetting/laws.FnExactReplaceItems", spec := "fnExactReplaceItems", unfollowed := true, recurses := true, apart := false, narrowed := true }
def FnExactReplaceItemsUptoSaid : Prop := fnExactReplaceItemsUptoRow.holds Try.pinned (OpenSpec.upto fnExactReplaceItemsSpec)

/-- 'laws.FnReplaceItems', WHERE WHAT IT READS IS OF BULK AT MOST 1048576: true; the input reads as it did. -/
def fnReplaceItemsUptoRow : OpenClaim := { program := "ytmljmcckkbomcaa", sum := "a62fbf789a3602ebd98cb9a9ab349ad7fc85302c2a728199ffebf9485d801f78", func := "loop.example/typesetting/laws.FnReplaceItems", spec := "fnReplaceItems", unfollowed := true, recurses := true, apart := false, narrowed := true }
def FnReplaceItemsUptoSaid : Prop := fnReplaceItemsUptoRow.holds Try.pinned (OpenSpec.upto fnReplaceItemsSpec)

/-- 'laws.FnReplaceBack', WHERE WHAT IT READS IS OF BULK AT MOST 1048576: true; the input reads as it did. -/
def fnReplaceBackUptoRow : OpenClaim := { program := "ytmljmcckkbomcaa", sum := "a62fbf789a3602ebd98cb9a9ab349ad7fc85302c2a728199ffebf9485d801f78", func := "loop.example/typesetting/laws.FnReplaceBack", spec := "fnReplaceBack", unfollowed := true, recurses := true, apart := false, narrowed := true }
def FnReplaceBackUptoSaid : Prop := fnReplaceBackUptoRow.holds Try.pinned (OpenSpec.upto fnReplaceBackSpec)

end Rows
end Go.Proofs.Ytmljmcckkbomcaa
