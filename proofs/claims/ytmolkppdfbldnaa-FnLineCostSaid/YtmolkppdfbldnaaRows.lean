/-
  No cell of these rows narrows 'for every input' (looked for: loops, veiled, ifaces, maps, wideKeys, modest, calm, conditions, laid).
  DERIVED. THE GIVEN ROWS OF THIS SEAT. 16 by the template 'for every input the law returns true; each argument reads behind the call as it read before'; 0 by the template 'total and deterministic' (their statements: YtmolkppdfbldnaaTotals.lean).
  GIVEN WITH THE SEED: the statements are not yours to turn. If you find one false, say at which input.
  Laid BY PROGRAM, IN A SANDBOX (cutbox-rows.mjs): the forced cells as the released guide's own fill.sh prints them over the translation 39831d47fffa5c88… (all of the seat's roots in one cut). By AI agents, Wed Nov 11 2026. No macro, syntax, notation, axiom, sorry.
-/
import Derived.Test.YtmolkppdfbldnaaChecked
import GoSem.Claim
import GoSem.ClaimJoined
import GoSem.ClaimMapViews
import Derived.JoinedTies
import Derived.KernelRfl
namespace Go.Proofs.Ytmolkppdfbldnaa
/- THE CELL 'sum', in the pinned program and in every row, IS THE sha256 OF THE DUMP (.gsa) THAT YtmolkppdfbldnaaProg.lean LOADS. Nothing in Lean hashes anything: it is a label: what it is worth is what the hold of that sum in a sandbox is worth. -/
noncomputable def Try.pinned : Pinned := { name := "ytmolkppdfbldnaa", sum := "39831d47fffa5c8828d7eed7162fc188cf5263763c7df8d68745f00a1965bd3e", checked := Try.checked }
namespace Rows
def none {H : Type} : Left H := { results := [], args := [] }

/-- 'laws.FnExactBreaksOf': WHATEVER THE INPUT: true; the input reads as it did. -/
def fnExactBreaksOfSpec : ChangeSpec := { name := "fnExactBreaksOf", fn := fun _ => fun
  | [d] => { results := [.lit (.bool true)], args := [d] }
  | _ => none }
def fnExactBreaksOfRow : OpenClaim := { program := "ytmolkppdfbldnaa", sum := "39831d47fffa5c8828d7eed7162fc188cf5263763c7df8d68745f00a1965bd3e", func := "loop.example/typesetting/laws.FnExactBreaksOf", spec := "fnExactBreaksOf", unfollowed := true, recurses := true, apart := false }
def FnExactBreaksOfSaid : Prop := fnExactBreaksOfRow.holds Try.pinned (OpenSpec.ofChange fnExactBreaksOfSpec)

/-- ITS FALSE NEIGHBOUR: 'it returns false'. Refute it at one input. -/
def fnExactBreaksOfWrong : ChangeSpec := { name := "fnExactBreaksOf", fn := fun _ => fun
  | [d] => { results := [.lit (.bool false)], args := [d] }
  | _ => none }
def FnExactBreaksOfWrongFalsely : Prop := fnExactBreaksOfRow.holds Try.pinned (OpenSpec.ofChange fnExactBreaksOfWrong)

/-- 'laws.FnExactLineGlue': WHATEVER THE INPUT: true; the input reads as it did. -/
def fnExactLineGlueSpec : ChangeSpec := { name := "fnExactLineGlue", fn := fun _ => fun
  | [d1, d2, d3] => { results := [.lit (.bool true)], args := [d1, d2, d3] }
  | _ => none }
def fnExactLineGlueRow : OpenClaim := { program := "ytmolkppdfbldnaa", sum := "39831d47fffa5c8828d7eed7162fc188cf5263763c7df8d68745f00a1965bd3e", func := "loop.example/typesetting/laws.FnExactLineGlue", spec := "fnExactLineGlue", unfollowed := true, recurses := true, apart := false }
def FnExactLineGlueSaid : Prop := fnExactLineGlueRow.holds Try.pinned (OpenSpec.ofChange fnExactLineGlueSpec)

/-- ITS FALSE NEIGHBOUR: 'it returns false'. Refute it at one input. -/
def fnExactLineGlueWrong : ChangeSpec := { name := "fnExactLineGlue", fn := fun _ => fun
  | [d1, d2, d3] => { results := [.lit (.bool false)], args := [d1, d2, d3] }
  | _ => none }
def FnExactLineGlueWrongFalsely : Prop := fnExactLineGlueRow.holds Try.pinned (OpenSpec.ofChange fnExactLineGlueWrong)

/-- 'laws.FnExactBoxesOf': WHATEVER THE INPUT: true; the input reads as it did. -/
def fnExactBoxesOfSpec : ChangeSpec := { name := "fnExactBoxesOf", fn := fun _ => fun
  | [d1, d2, d3] => { results := [.lit (.bool true)], args := [d1, d2, d3] }
  | _ => none }
def fnExactBoxesOfRow : OpenClaim := { program := "ytmolkppdfbldnaa", sum := "39831d47fffa5c8828d7eed7162fc188cf5263763c7df8d68745f00a1965bd3e", func := "loop.example/typesetting/laws.FnExactBoxesOf", spec := "fnExactBoxesOf", unfollowed := true, recurses := true, apart := false }
def FnExactBoxesOfSaid : Prop := fnExactBoxesOfRow.holds Try.pinned (OpenSpec.ofChange fnExactBoxesOfSpec)

/-- ITS FALSE NEIGHBOUR: 'it returns false'. Refute it at one input. -/
def fnExactBoxesOfWrong : ChangeSpec := { name := "fnExactBoxesOf", fn := fun _ => fun
  | [d1, d2, d3] => { results := [.lit (.bool false)], args := [d1, d2, d3] }
  | _ => none }
def FnExactBoxesOfWrongFalsely : Prop := fnExactBoxesOfRow.holds Try.pinned (OpenSpec.ofChange fnExactBoxesOfWrong)

/-- 'laws.FnExactFitLine': WHATEVER THE INPUT: true; the input reads as it did. -/
def fnExactFitLineSpec : ChangeSpec := { name := "fnExactFitLine", fn := fun _ => fun
  | [d1, d2, d3, d4] => { results := [.lit (.bool true)], args := [d1, d2, d3, d4] }
  | _ => none }
def fnExactFitLineRow : OpenClaim := { program := "ytmolkppdfbldnaa", sum := "39831d47fffa5c8828d7eed7162fc188cf5263763c7df8d68745f00a1965bd3e", func := "loop.example/typesetting/laws.FnExactFitLine", spec := "fnExactFitLine", unfollowed := true, recurses := true, apart := false }
def FnExactFitLineSaid : Prop := fnExactFitLineRow.holds Try.pinned (OpenSpec.ofChange fnExactFitLineSpec)

/-- ITS FALSE NEIGHBOUR: 'it returns false'. Refute it at one input. -/
def fnExactFitLineWrong : ChangeSpec := { name := "fnExactFitLine", fn := fun _ => fun
  | [d1, d2, d3, d4] => { results := [.lit (.bool false)], args := [d1, d2, d3, d4] }
  | _ => none }
def FnExactFitLineWrongFalsely : Prop := fnExactFitLineRow.holds Try.pinned (OpenSpec.ofChange fnExactFitLineWrong)

/-- 'laws.FnExactLineCost': WHATEVER THE INPUT: true; the input reads as it did. -/
def fnExactLineCostSpec : ChangeSpec := { name := "fnExactLineCost", fn := fun _ => fun
  | [d1, d2, d3, d4, d5] => { results := [.lit (.bool true)], args := [d1, d2, d3, d4, d5] }
  | _ => none }
def fnExactLineCostRow : OpenClaim := { program := "ytmolkppdfbldnaa", sum := "39831d47fffa5c8828d7eed7162fc188cf5263763c7df8d68745f00a1965bd3e", func := "loop.example/typesetting/laws.FnExactLineCost", spec := "fnExactLineCost", unfollowed := true, recurses := true, apart := false }
def FnExactLineCostSaid : Prop := fnExactLineCostRow.holds Try.pinned (OpenSpec.ofChange fnExactLineCostSpec)

/-- ITS FALSE NEIGHBOUR: 'it returns false'. Refute it at one input. -/
def fnExactLineCostWrong : ChangeSpec := { name := "fnExactLineCost", fn := fun _ => fun
  | [d1, d2, d3, d4, d5] => { results := [.lit (.bool false)], args := [d1, d2, d3, d4, d5] }
  | _ => none }
def FnExactLineCostWrongFalsely : Prop := fnExactLineCostRow.holds Try.pinned (OpenSpec.ofChange fnExactLineCostWrong)

/-- 'laws.FnExactSetLine': WHATEVER THE INPUT: true; the input reads as it did. -/
def fnExactSetLineSpec : ChangeSpec := { name := "fnExactSetLine", fn := fun _ => fun
  | [d1, d2, d3, d4] => { results := [.lit (.bool true)], args := [d1, d2, d3, d4] }
  | _ => none }
def fnExactSetLineRow : OpenClaim := { program := "ytmolkppdfbldnaa", sum := "39831d47fffa5c8828d7eed7162fc188cf5263763c7df8d68745f00a1965bd3e", func := "loop.example/typesetting/laws.FnExactSetLine", spec := "fnExactSetLine", unfollowed := true, recurses := true, apart := false }
def FnExactSetLineSaid : Prop := fnExactSetLineRow.holds Try.pinned (OpenSpec.ofChange fnExactSetLineSpec)

/-- ITS FALSE NEIGHBOUR: 'it returns false'. Refute it at one input. -/
def fnExactSetLineWrong : ChangeSpec := { name := "fnExactSetLine", fn := fun _ => fun
  | [d1, d2, d3, d4] => { results := [.lit (.bool false)], args := [d1, d2, d3, d4] }
  | _ => none }
def FnExactSetLineWrongFalsely : Prop := fnExactSetLineRow.holds Try.pinned (OpenSpec.ofChange fnExactSetLineWrong)

/-- 'laws.FnBreaksOf': WHATEVER THE INPUT: true; the input reads as it did. -/
def fnBreaksOfSpec : ChangeSpec := { name := "fnBreaksOf", fn := fun _ => fun
  | [d] => { results := [.lit (.bool true)], args := [d] }
  | _ => none }
def fnBreaksOfRow : OpenClaim := { program := "ytmolkppdfbldnaa", sum := "39831d47fffa5c8828d7eed7162fc188cf5263763c7df8d68745f00a1965bd3e", func := "loop.example/typesetting/laws.FnBreaksOf", spec := "fnBreaksOf", unfollowed := true, recurses := true, apart := false }
def FnBreaksOfSaid : Prop := fnBreaksOfRow.holds Try.pinned (OpenSpec.ofChange fnBreaksOfSpec)

/-- ITS FALSE NEIGHBOUR: 'it returns false'. Refute it at one input. -/
def fnBreaksOfWrong : ChangeSpec := { name := "fnBreaksOf", fn := fun _ => fun
  | [d] => { results := [.lit (.bool false)], args := [d] }
  | _ => none }
def FnBreaksOfWrongFalsely : Prop := fnBreaksOfRow.holds Try.pinned (OpenSpec.ofChange fnBreaksOfWrong)

/-- 'laws.FnForcedBreaks': WHATEVER THE INPUT: true; the input reads as it did. -/
def fnForcedBreaksSpec : ChangeSpec := { name := "fnForcedBreaks", fn := fun _ => fun
  | [d] => { results := [.lit (.bool true)], args := [d] }
  | _ => none }
def fnForcedBreaksRow : OpenClaim := { program := "ytmolkppdfbldnaa", sum := "39831d47fffa5c8828d7eed7162fc188cf5263763c7df8d68745f00a1965bd3e", func := "loop.example/typesetting/laws.FnForcedBreaks", spec := "fnForcedBreaks", unfollowed := true, recurses := true, apart := false }
def FnForcedBreaksSaid : Prop := fnForcedBreaksRow.holds Try.pinned (OpenSpec.ofChange fnForcedBreaksSpec)

/-- ITS FALSE NEIGHBOUR: 'it returns false'. Refute it at one input. -/
def fnForcedBreaksWrong : ChangeSpec := { name := "fnForcedBreaks", fn := fun _ => fun
  | [d] => { results := [.lit (.bool false)], args := [d] }
  | _ => none }
def FnForcedBreaksWrongFalsely : Prop := fnForcedBreaksRow.holds Try.pinned (OpenSpec.ofChange fnForcedBreaksWrong)

/-- 'laws.FnLineGlue': WHATEVER THE INPUT: true; the input reads as it did. -/
def fnLineGlueSpec : ChangeSpec := { name := "fnLineGlue", fn := fun _ => fun
  | [d] => { results := [.lit (.bool true)], args := [d] }
  | _ => none }
def fnLineGlueRow : OpenClaim := { program := "ytmolkppdfbldnaa", sum := "39831d47fffa5c8828d7eed7162fc188cf5263763c7df8d68745f00a1965bd3e", func := "loop.example/typesetting/laws.FnLineGlue", spec := "fnLineGlue", unfollowed := true, recurses := true, apart := false }
def FnLineGlueSaid : Prop := fnLineGlueRow.holds Try.pinned (OpenSpec.ofChange fnLineGlueSpec)

/-- ITS FALSE NEIGHBOUR: 'it returns false'. Refute it at one input. -/
def fnLineGlueWrong : ChangeSpec := { name := "fnLineGlue", fn := fun _ => fun
  | [d] => { results := [.lit (.bool false)], args := [d] }
  | _ => none }
def FnLineGlueWrongFalsely : Prop := fnLineGlueRow.holds Try.pinned (OpenSpec.ofChange fnLineGlueWrong)

/-- 'laws.FnBoxesOf': WHATEVER THE INPUT: true; the input reads as it did. -/
def fnBoxesOfSpec : ChangeSpec := { name := "fnBoxesOf", fn := fun _ => fun
  | [d] => { results := [.lit (.bool true)], args := [d] }
  | _ => none }
def fnBoxesOfRow : OpenClaim := { program := "ytmolkppdfbldnaa", sum := "39831d47fffa5c8828d7eed7162fc188cf5263763c7df8d68745f00a1965bd3e", func := "loop.example/typesetting/laws.FnBoxesOf", spec := "fnBoxesOf", unfollowed := true, recurses := true, apart := false }
def FnBoxesOfSaid : Prop := fnBoxesOfRow.holds Try.pinned (OpenSpec.ofChange fnBoxesOfSpec)

/-- ITS FALSE NEIGHBOUR: 'it returns false'. Refute it at one input. -/
def fnBoxesOfWrong : ChangeSpec := { name := "fnBoxesOf", fn := fun _ => fun
  | [d] => { results := [.lit (.bool false)], args := [d] }
  | _ => none }
def FnBoxesOfWrongFalsely : Prop := fnBoxesOfRow.holds Try.pinned (OpenSpec.ofChange fnBoxesOfWrong)

/-- 'laws.FnFitLine': WHATEVER THE INPUT: true; the input reads as it did. -/
def fnFitLineSpec : ChangeSpec := { name := "fnFitLine", fn := fun _ => fun
  | [d] => { results := [.lit (.bool true)], args := [d] }
  | _ => none }
def fnFitLineRow : OpenClaim := { program := "ytmolkppdfbldnaa", sum := "39831d47fffa5c8828d7eed7162fc188cf5263763c7df8d68745f00a1965bd3e", func := "loop.example/typesetting/laws.FnFitLine", spec := "fnFitLine", unfollowed := true, recurses := true, apart := false }
def FnFitLineSaid : Prop := fnFitLineRow.holds Try.pinned (OpenSpec.ofChange fnFitLineSpec)

/-- ITS FALSE NEIGHBOUR: 'it returns false'. Refute it at one input. -/
def fnFitLineWrong : ChangeSpec := { name := "fnFitLine", fn := fun _ => fun
  | [d] => { results := [.lit (.bool false)], args := [d] }
  | _ => none }
def FnFitLineWrongFalsely : Prop := fnFitLineRow.holds Try.pinned (OpenSpec.ofChange fnFitLineWrong)

/-- 'laws.FnLineCost': WHATEVER THE INPUT: true; the input reads as it did. -/
def fnLineCostSpec : ChangeSpec := { name := "fnLineCost", fn := fun _ => fun
  | [d] => { results := [.lit (.bool true)], args := [d] }
  | _ => none }
def fnLineCostRow : OpenClaim := { program := "ytmolkppdfbldnaa", sum := "39831d47fffa5c8828d7eed7162fc188cf5263763c7df8d68745f00a1965bd3e", func := "loop.example/typesetting/laws.FnLineCost", spec := "fnLineCost", unfollowed := true, recurses := true, apart := false }
def FnLineCostSaid : Prop := fnLineCostRow.holds Try.pinned (OpenSpec.ofChange fnLineCostSpec)

/-- ITS FALSE NEIGHBOUR: 'it returns false'. Refute it at one input. -/
def fnLineCostWrong : ChangeSpec := { name := "fnLineCost", fn := fun _ => fun
  | [d] => { results := [.lit (.bool false)], args := [d] }
  | _ => none }
def FnLineCostWrongFalsely : Prop := fnLineCostRow.holds Try.pinned (OpenSpec.ofChange fnLineCostWrong)

/-- 'laws.FnExactValidItems': WHATEVER THE INPUT: true; the input reads as it did. -/
def fnExactValidItemsSpec : ChangeSpec := { name := "fnExactValidItems", fn := fun _ => fun
  | [d] => { results := [.lit (.bool true)], args := [d] }
  | _ => none }
def fnExactValidItemsRow : OpenClaim := { program := "ytmolkppdfbldnaa", sum := "39831d47fffa5c8828d7eed7162fc188cf5263763c7df8d68745f00a1965bd3e", func := "loop.example/typesetting/laws.FnExactValidItems", spec := "fnExactValidItems", unfollowed := true, recurses := true, apart := false }
def FnExactValidItemsSaid : Prop := fnExactValidItemsRow.holds Try.pinned (OpenSpec.ofChange fnExactValidItemsSpec)

/-- ITS FALSE NEIGHBOUR: 'it returns false'. Refute it at one input. -/
def fnExactValidItemsWrong : ChangeSpec := { name := "fnExactValidItems", fn := fun _ => fun
  | [d] => { results := [.lit (.bool false)], args := [d] }
  | _ => none }
def FnExactValidItemsWrongFalsely : Prop := fnExactValidItemsRow.holds Try.pinned (OpenSpec.ofChange fnExactValidItemsWrong)

/-- 'laws.FnExactForcedBreaks': WHATEVER THE INPUT: true; the input reads as it did. -/
def fnExactForcedBreaksSpec : ChangeSpec := { name := "fnExactForcedBreaks", fn := fun _ => fun
  | [d] => { results := [.lit (.bool true)], args := [d] }
  | _ => none }
def fnExactForcedBreaksRow : OpenClaim := { program := "ytmolkppdfbldnaa", sum := "39831d47fffa5c8828d7eed7162fc188cf5263763c7df8d68745f00a1965bd3e", func := "loop.example/typesetting/laws.FnExactForcedBreaks", spec := "fnExactForcedBreaks", unfollowed := true, recurses := true, apart := false }
def FnExactForcedBreaksSaid : Prop := fnExactForcedBreaksRow.holds Try.pinned (OpenSpec.ofChange fnExactForcedBreaksSpec)

/-- ITS FALSE NEIGHBOUR: 'it returns false'. Refute it at one input. -/
def fnExactForcedBreaksWrong : ChangeSpec := { name := "fnExactForcedBreaks", fn := fun _ => fun
  | [d] => { results := [.lit (.bool false)], args := [d] }
  | _ => none }
def FnExactForcedBreaksWrongFalsely : Prop := fnExactForcedBreaksRow.holds Try.pinned (OpenSpec.ofChange fnExactForcedBreaksWrong)

/-- 'laws.FnExactCommonItems': WHATEVER THE INPUT: true; the input reads as it did. -/
def fnExactCommonItemsSpec : ChangeSpec := { name := "fnExactCommonItems", fn := fun _ => fun
  | [d1, d2] => { results := [.lit (.bool true)], args := [d1, d2] }
  | _ => none }
def fnExactCommonItemsRow : OpenClaim := { program := "ytmolkppdfbldnaa", sum := "39831d47fffa5c8828d7eed7162fc188cf5263763c7df8d68745f00a1965bd3e", func := "loop.example/typesetting/laws.FnExactCommonItems", spec := "fnExactCommonItems", unfollowed := true, recurses := true, apart := false }
def FnExactCommonItemsSaid : Prop := fnExactCommonItemsRow.holds Try.pinned (OpenSpec.ofChange fnExactCommonItemsSpec)

/-- ITS FALSE NEIGHBOUR: 'it returns false'. Refute it at one input. -/
def fnExactCommonItemsWrong : ChangeSpec := { name := "fnExactCommonItems", fn := fun _ => fun
  | [d1, d2] => { results := [.lit (.bool false)], args := [d1, d2] }
  | _ => none }
def FnExactCommonItemsWrongFalsely : Prop := fnExactCommonItemsRow.holds Try.pinned (OpenSpec.ofChange fnExactCommonItemsWrong)

/-- 'laws.FnCommonItems': WHATEVER THE INPUT: true; the input reads as it did. -/
def fnCommonItemsSpec : ChangeSpec := { name := "fnCommonItems", fn := fun _ => fun
  | [d] => { results := [.lit (.bool true)], args := [d] }
  | _ => none }
def fnCommonItemsRow : OpenClaim := { program := "ytmolkppdfbldnaa", sum := "39831d47fffa5c8828d7eed7162fc188cf5263763c7df8d68745f00a1965bd3e", func := "loop.example/typesetting/laws.FnCommonItems", spec := "fnCommonItems", unfollowed := true, recurses := true, apart := false }
def FnCommonItemsSaid : Prop := fnCommonItemsRow.holds Try.pinned (OpenSpec.ofChange fnCommonItemsSpec)

/-- ITS FALSE NEIGHBOUR: 'it returns false'. Refute it at one input. -/
def fnCommonItemsWrong : ChangeSpec := { name := "fnCommonItems", fn := fun _ => fun
  | [d] => { results := [.lit (.bool false)], args := [d] }
  | _ => none }
def FnCommonItemsWrongFalsely : Prop := fnCommonItemsRow.holds Try.pinned (OpenSpec.ofChange fnCommonItemsWrong)

/- THE SECOND FORM. 'bulk': how many values and letters a reading holds, each counted each time it is reached (what is shared counts as often as it is met; a slice's spare places count too). A statement '..UptoSaid' is the law's where the arguments, and the package variables that the reading takes, are together of bulk at most 1048576: NARROWER than '..Said'. Prove '..Said' where nothing that the law and all that it calls make is longer than what came in: it says more and counts as full. Else prove '..UptoSaid'. A law counts once. -/
mutual
def uptoBulk {H : Type} : DataW H → Nat
  | .lit (.string bytes) => bytes.length + 1
  | .lit _ => 1
  | .nil => 1
  | .ptr d => uptoBulk d + 1
  | .slice elems spare => uptoBulkAll elems + uptoBulkAll spare + 1
  | .agg parts => uptoBulkAll parts + 1
  | .iface _ d => uptoBulk d + 1
  | .map entries => uptoBulkEntries entries + 1
  | .held _ => 1
def uptoBulkAll {H : Type} : List (DataW H) → Nat
  | [] => 0
  | d :: r => uptoBulk d + uptoBulkAll r
def uptoBulkEntries {H : Type} : List (Lit × DataW H) → Nat
  | [] => 0
  | x :: r => uptoBulkEntry x + uptoBulkEntries r
def uptoBulkEntry {H : Type} : Lit × DataW H → Nat
  | (.string bytes, d) => bytes.length + uptoBulk d + 1
  | (_, d) => uptoBulk d + 1
 end
def uptoSmall : (H : Type) → List (DataW H) → Bool := fun _ ds => decide (uptoBulkAll ds ≤ 1048576)
def OpenSpec.upto (s : _root_.Go.ChangeSpec) : _root_.Go.OpenSpec := { _root_.Go.OpenSpec.ofChange s with cond := some uptoSmall }

/-- 'laws.FnExactBreaksOf', WHERE WHAT IT READS IS OF BULK AT MOST 1048576: true; the input reads as it did. -/
def fnExactBreaksOfUptoRow : OpenClaim := { program := "ytmolkppdfbldnaa", sum := "39831d47fffa5c8828d7eed7162fc188cf5263763c7df8d68745f00a1965bd3e", func := "loop.example/typesetting/laws.FnExactBreaksOf", spec := "fnExactBreaksOf", unfollowed := true, recurses := true, apart := false, narrowed := true }
def FnExactBreaksOfUptoSaid : Prop := fnExactBreaksOfUptoRow.holds Try.pinned (OpenSpec.upto fnExactBreaksOfSpec)

/-- 'laws.FnExactLineGlue', WHERE WHAT IT READS IS OF BULK AT MOST 1048576: true; the input reads as it did. -/
def fnExactLineGlueUptoRow : OpenClaim := { program := "ytmolkppdfbldnaa", sum := "39831d47fffa5c8828d7eed7162fc188cf5263763c7df8d68745f00a1965bd3e", func := "loop.example/typesetting/laws.FnExactLineGlue", spec := "fnExactLineGlue", unfollowed := true, recurses := true, apart := false, narrowed := true }
def FnExactLineGlueUptoSaid : Prop := fnExactLineGlueUptoRow.holds Try.pinned (OpenSpec.upto fnExactLineGlueSpec)

/-- 'laws.FnExactBoxesOf', WHERE WHAT IT READS IS OF BULK AT MOST 1048576: true; the input reads as it did. -/
def fnExactBoxesOfUptoRow : OpenClaim := { program := "ytmolkppdfbldnaa", sum := "39831d47fffa5c8828d7eed7162fc188cf5263763c7df8d68745f00a1965bd3e", func := "loop.example/typesetting/laws.FnExactBoxesOf", spec := "fnExactBoxesOf", unfollowed := true, recurses := true, apart := false, narrowed := true }
def FnExactBoxesOfUptoSaid : Prop := fnExactBoxesOfUptoRow.holds Try.pinned (OpenSpec.upto fnExactBoxesOfSpec)

/-- 'laws.FnExactFitLine', WHERE WHAT IT READS IS OF BULK AT MOST 1048576: true; the input reads as it did. -/
def fnExactFitLineUptoRow : OpenClaim := { program := "ytmolkppdfbldnaa", sum := "39831d47fffa5c8828d7eed7162fc188cf5263763c7df8d68745f00a1965bd3e", func := "loop.example/typesetting/laws.FnExactFitLine", spec := "fnExactFitLine", unfollowed := true, recurses := true, apart := false, narrowed := true }
def FnExactFitLineUptoSaid : Prop := fnExactFitLineUptoRow.holds Try.pinned (OpenSpec.upto fnExactFitLineSpec)

/-- 'laws.FnExactLineCost', WHERE WHAT IT READS IS OF BULK AT MOST 1048576: true; the input reads as it did. -/
def fnExactLineCostUptoRow : OpenClaim := { program := "ytmolkppdfbldnaa", sum := "39831d47fffa5c8828d7eed7162fc188cf5263763c7df8d68745f00a1965bd3e", func := "loop.example/typesetting/laws.FnExactLineCost", spec := "fnExactLineCost", unfollowed := true, recurses := true, apart := false, narrowed := true }
def FnExactLineCostUptoSaid : Prop := fnExactLineCostUptoRow.holds Try.pinned (OpenSpec.upto fnExactLineCostSpec)

/-- 'laws.FnExactSetLine', WHERE WHAT IT READS IS OF BULK AT MOST 1048576: true; the input reads as it did. -/
def fnExactSetLineUptoRow : OpenClaim := { program := "ytmolkppdfbldnaa", sum := "39831d47fffa5c8828d7eed7162fc188cf5263763c7df8d68745f00a1965bd3e", func := "loop.example/typesetting/laws.FnExactSetLine", spec := "fnExactSetLine", unfollowed := true, recurses := true, apart := false, narrowed := true }
def FnExactSetLineUptoSaid : Prop := fnExactSetLineUptoRow.holds Try.pinned (OpenSpec.upto fnExactSetLineSpec)

/-- 'laws.FnBreaksOf', WHERE WHAT IT READS IS OF BULK AT MOST 1048576: true; the input reads as it did. -/
def fnBreaksOfUptoRow : OpenClaim := { program := "ytmolkppdfbldnaa", sum := "39831d47fffa5c8828d7eed7162fc188cf5263763c7df8d68745f00a1965bd3e", func := "loop.example/typesetting/laws.FnBreaksOf", spec := "fnBreaksOf", unfollowed := true, recurses := true, apart := false, narrowed := true }
def FnBreaksOfUptoSaid : Prop := fnBreaksOfUptoRow.holds Try.pinned (OpenSpec.upto fnBreaksOfSpec)

/-- 'laws.FnForcedBreaks', WHERE WHAT IT READS IS OF BULK AT MOST 1048576: true; the input reads as it did. -/
def fnForcedBreaksUptoRow : OpenClaim := { program := "ytmolkppdfbldnaa", sum := "39831d47fffa5c8828d7eed7162fc188cf5263763c7df8d68745f00a1965bd3e", func := "loop.example/typesetting/laws.FnForcedBreaks", spec := "fnForcedBreaks", unfollowed := true, recurses := true, apart := false, narrowed := true }
def FnForcedBreaksUptoSaid : Prop := fnForcedBreaksUptoRow.holds Try.pinned (OpenSpec.upto fnForcedBreaksSpec)

/-- 'laws.FnLineGlue', WHERE WHAT IT READS IS OF BULK AT MOST 1048576: true; the input reads as it did. -/
def fnLineGlueUptoRow : OpenClaim := { program := "ytmolkppdfbldnaa", sum := "39831d47fffa5c8828d7eed7162fc188cf5263763c7df8d68745f00a1965bd3e", func := "loop.example/typesetting/laws.FnLineGlue", spec := "fnLineGlue", unfollowed := true, recurses := true, apart := false, narrowed := true }
def FnLineGlueUptoSaid : Prop := fnLineGlueUptoRow.holds Try.pinned (OpenSpec.upto fnLineGlueSpec)

/-- 'laws.FnBoxesOf', WHERE WHAT IT READS IS OF BULK AT MOST 1048576: true; the input reads as it did. -/
def fnBoxesOfUptoRow : OpenClaim := { program := "ytmolkppdfbldnaa", sum := "39831d47fffa5c8828d7eed7162fc188cf5263763c7df8d68745f00a1965bd3e", func := "loop.example/typesetting/laws.FnBoxesOf", spec := "fnBoxesOf", unfollowed := true, recurses := true, apart := false, narrowed := true }
def FnBoxesOfUptoSaid : Prop := fnBoxesOfUptoRow.holds Try.pinned (OpenSpec.upto fnBoxesOfSpec)

/-- 'laws.FnFitLine', WHERE WHAT IT READS IS OF BULK AT MOST 1048576: true; the input reads as it did. -/
def fnFitLineUptoRow : OpenClaim := { program := "ytmolkppdfbldnaa", sum := "39831d47fffa5c8828d7eed7162fc188cf5263763c7df8d68745f00a1965bd3e", func := "loop.example/typesetting/laws.FnFitLine", spec := "fnFitLine", unfollowed := true, recurses := true, apart := false, narrowed := true }
def FnFitLineUptoSaid : Prop := fnFitLineUptoRow.holds Try.pinned (OpenSpec.upto fnFitLineSpec)

/-- 'laws.FnLineCost', WHERE WHAT IT READS IS OF BULK AT MOST 1048576: true; the input reads as it did. -/
def fnLineCostUptoRow : OpenClaim := { program := "ytmolkppdfbldnaa", sum := "39831d47fffa5c8828d7eed7162fc188cf5263763c7df8d68745f00a1965bd3e", func := "loop.example/typesetting/laws.FnLineCost", spec := "fnLineCost", unfollowed := true, recurses := true, apart := false, narrowed := true }
def FnLineCostUptoSaid : Prop := fnLineCostUptoRow.holds Try.pinned (OpenSpec.upto fnLineCostSpec)

/-- 'laws.FnExactValidItems', WHERE WHAT IT READS IS OF BULK AT MOST 1048576: true; the input reads as it did. -/
def fnExactValidItemsUptoRow : OpenClaim := { program := "ytmolkppdfbldnaa", sum := "39831d47fffa5c8828d7eed7162fc188cf5263763c7df8d68745f00a1965bd3e", func := "loop.example/typesetting/laws.FnExactValidItems", spec := "fnExactValidItems", unfollowed := true, recurses := true, apart := false, narrowed := true }
def FnExactValidItemsUptoSaid : Prop := fnExactValidItemsUptoRow.holds Try.pinned (OpenSpec.upto fnExactValidItemsSpec)

/-- 'laws.FnExactForcedBreaks', WHERE WHAT IT READS IS OF BULK AT MOST 1048576: true; the input reads as it did. -/
def fnExactForcedBreaksUptoRow : OpenClaim := { program := "ytmolkppdfbldnaa", sum := "39831d47fffa5c8828d7eed7162fc188cf5263763c7df8d68745f00a1965bd3e", func := "loop.example/typesetting/laws.FnExactForcedBreaks", spec := "fnExactForcedBreaks", unfollowed := true, recurses := true, apart := false, narrowed := true }
def FnExactForcedBreaksUptoSaid : Prop := fnExactForcedBreaksUptoRow.holds Try.pinned (OpenSpec.upto fnExactForcedBreaksSpec)

/-- 'laws.FnExactCommonItems', WHERE WHAT IT READS IS OF BULK AT MOST 1048576: true; the input reads as it did. -/
def fnExactCommonItemsUptoRow : OpenClaim := { program := "ytmolkppdfbldnaa", sum := "39831d47fffa5c8828d7eed7162fc188cf5263763c7df8d68745f00a1965bd3e", func := "loop.example/typesetting/laws.FnExactCommonItems", spec := "fnExactCommonItems", unfollowed := true, recurses := true, apart := false, narrowed := true }
def FnExactCommonItemsUptoSaid : Prop := fnExactCommonItemsUptoRow.holds Try.pinned (OpenSpec.upto fnExactCommonItemsSpec)

/-- 'laws.FnCommonItems', WHERE WHAT IT READS IS OF BULK AT MOST 1048576: true; the input reads as it did. -/
def fnCommonItemsUptoRow : OpenClaim := { program := "ytmolkppdfbldnaa", sum := "39831d47fffa5c8828d7eed7162fc188cf5263763c7df8d68745f00a1965bd3e", func := "loop.example/typesetting/laws.FnCommonItems", spec := "fnCommonItems", unfollowed := true, recurses := true, apart := false, narrowed := true }
def FnCommonItemsUptoSaid : Prop := fnCommonItemsUptoRow.holds Try.pinned (OpenSpec.upto fnCommonItemsSpec)

end Rows
end Go.Proofs.Ytmolkppdfbldnaa
