/-
  No cell of these rows narrows 'for every input' (looked for: loops, veiled, ifaces, maps, wideKeys, modest, calm, conditions, laid).
  DERIVED. THE GIVEN ROWS OF THIS SEAT. 16 by the template 'for every input the law returns true; each argument reads behind the call as it read before'; 0 by the template 'total and deterministic' (their statements: YtpgcpmfnidjhnaaTotals.lean).
  GIVEN WITH THE SEED: the statements are not yours to turn. If you find one false, say at which input.
  Laid BY PROGRAM, IN A SANDBOX (cutbox-rows.mjs): the forced cells as the released guide's own fill.sh prints them over the translation 34637b86dcb21186… (all of the seat's roots in one cut). By AI agents, Wed Nov 11 2026. No macro, syntax, notation, axiom, sorry.
-/
import Derived.Test.YtpgcpmfnidjhnaaChecked
import GoSem.Claim
import GoSem.ClaimJoined
import GoSem.ClaimMapViews
import Derived.JoinedTies
import Derived.KernelRfl
namespace Go.Proofs.Ytpgcpmfnidjhnaa
/- THE CELL 'sum', in the pinned program and in every row, IS THE sha256 OF THE DUMP (.gsa) THAT YtpgcpmfnidjhnaaProg.lean LOADS. Nothing in Lean hashes anything: it is a label: what it is worth is what the hold of that sum in a sandbox is worth. -/
noncomputable def Try.pinned : Pinned := { name := "ytpgcpmfnidjhnaa", sum := "34637b86dcb2118651df2b74cfab85b1ea735c622755fca4eea42e8059dac352", checked := Try.checked }
namespace Rows
def none {H : Type} : Left H := { results := [], args := [] }

/-- 'laws.FnExactKeptLines': WHATEVER THE INPUT: true; the input reads as it did. -/
def fnExactKeptLinesSpec : ChangeSpec := { name := "fnExactKeptLines", fn := fun _ => fun
  | [d1, d2] => { results := [.lit (.bool true)], args := [d1, d2] }
  | _ => none }
def fnExactKeptLinesRow : OpenClaim := { program := "ytpgcpmfnidjhnaa", sum := "34637b86dcb2118651df2b74cfab85b1ea735c622755fca4eea42e8059dac352", func := "loop.example/typesetting/laws.FnExactKeptLines", spec := "fnExactKeptLines", apart := false }
def FnExactKeptLinesSaid : Prop := fnExactKeptLinesRow.holds Try.pinned (OpenSpec.ofChange fnExactKeptLinesSpec)

/-- ITS FALSE NEIGHBOUR: 'it returns false'. Refute it at one input. -/
def fnExactKeptLinesWrong : ChangeSpec := { name := "fnExactKeptLines", fn := fun _ => fun
  | [d1, d2] => { results := [.lit (.bool false)], args := [d1, d2] }
  | _ => none }
def FnExactKeptLinesWrongFalsely : Prop := fnExactKeptLinesRow.holds Try.pinned (OpenSpec.ofChange fnExactKeptLinesWrong)

/-- 'laws.FnKeptLines': WHATEVER THE INPUT: true; the input reads as it did. -/
def fnKeptLinesSpec : ChangeSpec := { name := "fnKeptLines", fn := fun _ => fun
  | [d] => { results := [.lit (.bool true)], args := [d] }
  | _ => none }
def fnKeptLinesRow : OpenClaim := { program := "ytpgcpmfnidjhnaa", sum := "34637b86dcb2118651df2b74cfab85b1ea735c622755fca4eea42e8059dac352", func := "loop.example/typesetting/laws.FnKeptLines", spec := "fnKeptLines", apart := false }
def FnKeptLinesSaid : Prop := fnKeptLinesRow.holds Try.pinned (OpenSpec.ofChange fnKeptLinesSpec)

/-- ITS FALSE NEIGHBOUR: 'it returns false'. Refute it at one input. -/
def fnKeptLinesWrong : ChangeSpec := { name := "fnKeptLines", fn := fun _ => fun
  | [d] => { results := [.lit (.bool false)], args := [d] }
  | _ => none }
def FnKeptLinesWrongFalsely : Prop := fnKeptLinesRow.holds Try.pinned (OpenSpec.ofChange fnKeptLinesWrong)

/-- 'laws.FnExactCommonItems': WHATEVER THE INPUT: true; the input reads as it did. -/
def fnExactCommonItemsSpec : ChangeSpec := { name := "fnExactCommonItems", fn := fun _ => fun
  | [d1, d2] => { results := [.lit (.bool true)], args := [d1, d2] }
  | _ => none }
def fnExactCommonItemsRow : OpenClaim := { program := "ytpgcpmfnidjhnaa", sum := "34637b86dcb2118651df2b74cfab85b1ea735c622755fca4eea42e8059dac352", func := "loop.example/typesetting/laws.FnExactCommonItems", spec := "fnExactCommonItems", unfollowed := true, recurses := true, apart := false }
def FnExactCommonItemsSaid : Prop := fnExactCommonItemsRow.holds Try.pinned (OpenSpec.ofChange fnExactCommonItemsSpec)

/-- ITS FALSE NEIGHBOUR: 'it returns false'. Refute it at one input. -/
def fnExactCommonItemsWrong : ChangeSpec := { name := "fnExactCommonItems", fn := fun _ => fun
  | [d1, d2] => { results := [.lit (.bool false)], args := [d1, d2] }
  | _ => none }
def FnExactCommonItemsWrongFalsely : Prop := fnExactCommonItemsRow.holds Try.pinned (OpenSpec.ofChange fnExactCommonItemsWrong)

/-- 'laws.FnCommonItems': WHATEVER THE INPUT: true; the input reads as it did. -/
def fnCommonItemsSpec : ChangeSpec := { name := "fnCommonItems", fn := fun _ => fun
  | [d] => { results := [.lit (.bool true)], args := [d] }
  | _ => none }
def fnCommonItemsRow : OpenClaim := { program := "ytpgcpmfnidjhnaa", sum := "34637b86dcb2118651df2b74cfab85b1ea735c622755fca4eea42e8059dac352", func := "loop.example/typesetting/laws.FnCommonItems", spec := "fnCommonItems", unfollowed := true, recurses := true, apart := false }
def FnCommonItemsSaid : Prop := fnCommonItemsRow.holds Try.pinned (OpenSpec.ofChange fnCommonItemsSpec)

/-- ITS FALSE NEIGHBOUR: 'it returns false'. Refute it at one input. -/
def fnCommonItemsWrong : ChangeSpec := { name := "fnCommonItems", fn := fun _ => fun
  | [d] => { results := [.lit (.bool false)], args := [d] }
  | _ => none }
def FnCommonItemsWrongFalsely : Prop := fnCommonItemsRow.holds Try.pinned (OpenSpec.ofChange fnCommonItemsWrong)

/-- 'laws.FnExactReplaceItems': WHATEVER THE INPUT: true; the input reads as it did. -/
def fnExactReplaceItemsSpec : ChangeSpec := { name := "fnExactReplaceItems", fn := fun _ => fun
  | [d1, d2, d3, d4] => { results := [.lit (.bool true)], args := [d1, d2, d3, d4] }
  | _ => none }
def fnExactReplaceItemsRow : OpenClaim := { program := "ytpgcpmfnidjhnaa", sum := "34637b86dcb2118651df2b74cfab85b1ea735c622755fca4eea42e8059dac352", func := "loop.example/typesetting/laws.FnExactReplaceItems", spec := "fnExactReplaceItems", unfollowed := true, recurses := true, apart := false }
def FnExactReplaceItemsSaid : Prop := fnExactReplaceItemsRow.holds Try.pinned (OpenSpec.ofChange fnExactReplaceItemsSpec)

/-- ITS FALSE NEIGHBOUR: 'it returns false'. Refute it at one input. -/
def fnExactReplaceItemsWrong : ChangeSpec := { name := "fnExactReplaceItems", fn := fun _ => fun
  | [d1, d2, d3, d4] => { results := [.lit (.bool false)], args := [d1, d2, d3, d4] }
  | _ => none }
def FnExactReplaceItemsWrongFalsely : Prop := fnExactReplaceItemsRow.holds Try.pinned (OpenSpec.ofChange fnExactReplaceItemsWrong)

/-- 'laws.FnReplaceItems': WHATEVER THE INPUT: true; the input reads as it did. -/
def fnReplaceItemsSpec : ChangeSpec := { name := "fnReplaceItems", fn := fun _ => fun
  | [d] => { results := [.lit (.bool true)], args := [d] }
  | _ => none }
def fnReplaceItemsRow : OpenClaim := { program := "ytpgcpmfnidjhnaa", sum := "34637b86dcb2118651df2b74cfab85b1ea735c622755fca4eea42e8059dac352", func := "loop.example/typesetting/laws.FnReplaceItems", spec := "fnReplaceItems", unfollowed := true, recurses := true, apart := false }
def FnReplaceItemsSaid : Prop := fnReplaceItemsRow.holds Try.pinned (OpenSpec.ofChange fnReplaceItemsSpec)

/-- ITS FALSE NEIGHBOUR: 'it returns false'. Refute it at one input. -/
def fnReplaceItemsWrong : ChangeSpec := { name := "fnReplaceItems", fn := fun _ => fun
  | [d] => { results := [.lit (.bool false)], args := [d] }
  | _ => none }
def FnReplaceItemsWrongFalsely : Prop := fnReplaceItemsRow.holds Try.pinned (OpenSpec.ofChange fnReplaceItemsWrong)

/-- 'laws.FnExactValidPlaced': WHATEVER THE INPUT: true; the input reads as it did. -/
def fnExactValidPlacedSpec : ChangeSpec := { name := "fnExactValidPlaced", fn := fun _ => fun
  | [d1, d2, d3] => { results := [.lit (.bool true)], args := [d1, d2, d3] }
  | _ => none }
def fnExactValidPlacedRow : OpenClaim := { program := "ytpgcpmfnidjhnaa", sum := "34637b86dcb2118651df2b74cfab85b1ea735c622755fca4eea42e8059dac352", func := "loop.example/typesetting/laws.FnExactValidPlaced", spec := "fnExactValidPlaced", apart := false }
def FnExactValidPlacedSaid : Prop := fnExactValidPlacedRow.holds Try.pinned (OpenSpec.ofChange fnExactValidPlacedSpec)

/-- ITS FALSE NEIGHBOUR: 'it returns false'. Refute it at one input. -/
def fnExactValidPlacedWrong : ChangeSpec := { name := "fnExactValidPlaced", fn := fun _ => fun
  | [d1, d2, d3] => { results := [.lit (.bool false)], args := [d1, d2, d3] }
  | _ => none }
def FnExactValidPlacedWrongFalsely : Prop := fnExactValidPlacedRow.holds Try.pinned (OpenSpec.ofChange fnExactValidPlacedWrong)

/-- 'laws.FnValidPlaced': WHATEVER THE INPUT: true; the input reads as it did. -/
def fnValidPlacedSpec : ChangeSpec := { name := "fnValidPlaced", fn := fun _ => fun
  | [d1, d2] => { results := [.lit (.bool true)], args := [d1, d2] }
  | _ => none }
def fnValidPlacedRow : OpenClaim := { program := "ytpgcpmfnidjhnaa", sum := "34637b86dcb2118651df2b74cfab85b1ea735c622755fca4eea42e8059dac352", func := "loop.example/typesetting/laws.FnValidPlaced", spec := "fnValidPlaced", apart := false }
def FnValidPlacedSaid : Prop := fnValidPlacedRow.holds Try.pinned (OpenSpec.ofChange fnValidPlacedSpec)

/-- ITS FALSE NEIGHBOUR: 'it returns false'. Refute it at one input. -/
def fnValidPlacedWrong : ChangeSpec := { name := "fnValidPlaced", fn := fun _ => fun
  | [d1, d2] => { results := [.lit (.bool false)], args := [d1, d2] }
  | _ => none }
def FnValidPlacedWrongFalsely : Prop := fnValidPlacedRow.holds Try.pinned (OpenSpec.ofChange fnValidPlacedWrong)

/-- 'laws.FnExactOverlaps': WHATEVER THE INPUT: true; the input reads as it did. -/
def fnExactOverlapsSpec : ChangeSpec := { name := "fnExactOverlaps", fn := fun _ => fun
  | [d1, d2, d3] => { results := [.lit (.bool true)], args := [d1, d2, d3] }
  | _ => none }
def fnExactOverlapsRow : OpenClaim := { program := "ytpgcpmfnidjhnaa", sum := "34637b86dcb2118651df2b74cfab85b1ea735c622755fca4eea42e8059dac352", func := "loop.example/typesetting/laws.FnExactOverlaps", spec := "fnExactOverlaps", apart := false }
def FnExactOverlapsSaid : Prop := fnExactOverlapsRow.holds Try.pinned (OpenSpec.ofChange fnExactOverlapsSpec)

/-- ITS FALSE NEIGHBOUR: 'it returns false'. Refute it at one input. -/
def fnExactOverlapsWrong : ChangeSpec := { name := "fnExactOverlaps", fn := fun _ => fun
  | [d1, d2, d3] => { results := [.lit (.bool false)], args := [d1, d2, d3] }
  | _ => none }
def FnExactOverlapsWrongFalsely : Prop := fnExactOverlapsRow.holds Try.pinned (OpenSpec.ofChange fnExactOverlapsWrong)

/-- 'laws.FnOverlaps': WHATEVER THE INPUT: true; the input reads as it did. -/
def fnOverlapsSpec : ChangeSpec := { name := "fnOverlaps", fn := fun _ => fun
  | [d] => { results := [.lit (.bool true)], args := [d] }
  | _ => none }
def fnOverlapsRow : OpenClaim := { program := "ytpgcpmfnidjhnaa", sum := "34637b86dcb2118651df2b74cfab85b1ea735c622755fca4eea42e8059dac352", func := "loop.example/typesetting/laws.FnOverlaps", spec := "fnOverlaps", apart := false }
def FnOverlapsSaid : Prop := fnOverlapsRow.holds Try.pinned (OpenSpec.ofChange fnOverlapsSpec)

/-- ITS FALSE NEIGHBOUR: 'it returns false'. Refute it at one input. -/
def fnOverlapsWrong : ChangeSpec := { name := "fnOverlaps", fn := fun _ => fun
  | [d] => { results := [.lit (.bool false)], args := [d] }
  | _ => none }
def FnOverlapsWrongFalsely : Prop := fnOverlapsRow.holds Try.pinned (OpenSpec.ofChange fnOverlapsWrong)

/-- 'laws.FnExactFillLine': WHATEVER THE INPUT: true; the input reads as it did. -/
def fnExactFillLineSpec : ChangeSpec := { name := "fnExactFillLine", fn := fun _ => fun
  | [d1, d2] => { results := [.lit (.bool true)], args := [d1, d2] }
  | _ => none }
def fnExactFillLineRow : OpenClaim := { program := "ytpgcpmfnidjhnaa", sum := "34637b86dcb2118651df2b74cfab85b1ea735c622755fca4eea42e8059dac352", func := "loop.example/typesetting/laws.FnExactFillLine", spec := "fnExactFillLine", inPlace := ["internal/abi.NoEscape", "internal/bytealg.MakeNoZero"], apart := false }
def FnExactFillLineSaid : Prop := fnExactFillLineRow.holds Try.pinned (OpenSpec.ofChange fnExactFillLineSpec)

/-- ITS FALSE NEIGHBOUR: 'it returns false'. Refute it at one input. -/
def fnExactFillLineWrong : ChangeSpec := { name := "fnExactFillLine", fn := fun _ => fun
  | [d1, d2] => { results := [.lit (.bool false)], args := [d1, d2] }
  | _ => none }
def FnExactFillLineWrongFalsely : Prop := fnExactFillLineRow.holds Try.pinned (OpenSpec.ofChange fnExactFillLineWrong)

/-- 'laws.FnFillLine': WHATEVER THE INPUT: true; the input reads as it did. -/
def fnFillLineSpec : ChangeSpec := { name := "fnFillLine", fn := fun _ => fun
  | [d] => { results := [.lit (.bool true)], args := [d] }
  | _ => none }
def fnFillLineRow : OpenClaim := { program := "ytpgcpmfnidjhnaa", sum := "34637b86dcb2118651df2b74cfab85b1ea735c622755fca4eea42e8059dac352", func := "loop.example/typesetting/laws.FnFillLine", spec := "fnFillLine", inPlace := ["internal/abi.NoEscape", "internal/bytealg.MakeNoZero"], apart := false }
def FnFillLineSaid : Prop := fnFillLineRow.holds Try.pinned (OpenSpec.ofChange fnFillLineSpec)

/-- ITS FALSE NEIGHBOUR: 'it returns false'. Refute it at one input. -/
def fnFillLineWrong : ChangeSpec := { name := "fnFillLine", fn := fun _ => fun
  | [d] => { results := [.lit (.bool false)], args := [d] }
  | _ => none }
def FnFillLineWrongFalsely : Prop := fnFillLineRow.holds Try.pinned (OpenSpec.ofChange fnFillLineWrong)

/-- 'laws.FnFillEven': WHATEVER THE INPUT: true; the input reads as it did. -/
def fnFillEvenSpec : ChangeSpec := { name := "fnFillEven", fn := fun _ => fun
  | [d] => { results := [.lit (.bool true)], args := [d] }
  | _ => none }
def fnFillEvenRow : OpenClaim := { program := "ytpgcpmfnidjhnaa", sum := "34637b86dcb2118651df2b74cfab85b1ea735c622755fca4eea42e8059dac352", func := "loop.example/typesetting/laws.FnFillEven", spec := "fnFillEven", inPlace := ["internal/abi.NoEscape", "internal/bytealg.MakeNoZero"], apart := false }
def FnFillEvenSaid : Prop := fnFillEvenRow.holds Try.pinned (OpenSpec.ofChange fnFillEvenSpec)

/-- ITS FALSE NEIGHBOUR: 'it returns false'. Refute it at one input. -/
def fnFillEvenWrong : ChangeSpec := { name := "fnFillEven", fn := fun _ => fun
  | [d] => { results := [.lit (.bool false)], args := [d] }
  | _ => none }
def FnFillEvenWrongFalsely : Prop := fnFillEvenRow.holds Try.pinned (OpenSpec.ofChange fnFillEvenWrong)

/-- 'laws.FnExactWrapCost': WHATEVER THE INPUT: true; the input reads as it did. -/
def fnExactWrapCostSpec : ChangeSpec := { name := "fnExactWrapCost", fn := fun _ => fun
  | [d1, d2, d3] => { results := [.lit (.bool true)], args := [d1, d2, d3] }
  | _ => none }
def fnExactWrapCostRow : OpenClaim := { program := "ytpgcpmfnidjhnaa", sum := "34637b86dcb2118651df2b74cfab85b1ea735c622755fca4eea42e8059dac352", func := "loop.example/typesetting/laws.FnExactWrapCost", spec := "fnExactWrapCost", unfollowed := true, recurses := true, apart := false }
def FnExactWrapCostSaid : Prop := fnExactWrapCostRow.holds Try.pinned (OpenSpec.ofChange fnExactWrapCostSpec)

/-- ITS FALSE NEIGHBOUR: 'it returns false'. Refute it at one input. -/
def fnExactWrapCostWrong : ChangeSpec := { name := "fnExactWrapCost", fn := fun _ => fun
  | [d1, d2, d3] => { results := [.lit (.bool false)], args := [d1, d2, d3] }
  | _ => none }
def FnExactWrapCostWrongFalsely : Prop := fnExactWrapCostRow.holds Try.pinned (OpenSpec.ofChange fnExactWrapCostWrong)

/-- 'laws.FnExactWrapWords': WHATEVER THE INPUT: true; the input reads as it did. -/
def fnExactWrapWordsSpec : ChangeSpec := { name := "fnExactWrapWords", fn := fun _ => fun
  | [d1, d2] => { results := [.lit (.bool true)], args := [d1, d2] }
  | _ => none }
def fnExactWrapWordsRow : OpenClaim := { program := "ytpgcpmfnidjhnaa", sum := "34637b86dcb2118651df2b74cfab85b1ea735c622755fca4eea42e8059dac352", func := "loop.example/typesetting/laws.FnExactWrapWords", spec := "fnExactWrapWords", unfollowed := true, recurses := true, apart := false }
def FnExactWrapWordsSaid : Prop := fnExactWrapWordsRow.holds Try.pinned (OpenSpec.ofChange fnExactWrapWordsSpec)

/-- ITS FALSE NEIGHBOUR: 'it returns false'. Refute it at one input. -/
def fnExactWrapWordsWrong : ChangeSpec := { name := "fnExactWrapWords", fn := fun _ => fun
  | [d1, d2] => { results := [.lit (.bool false)], args := [d1, d2] }
  | _ => none }
def FnExactWrapWordsWrongFalsely : Prop := fnExactWrapWordsRow.holds Try.pinned (OpenSpec.ofChange fnExactWrapWordsWrong)

/-- 'laws.FnExactFillText': WHATEVER THE INPUT: true; the input reads as it did. -/
def fnExactFillTextSpec : ChangeSpec := { name := "fnExactFillText", fn := fun _ => fun
  | [d1, d2] => { results := [.lit (.bool true)], args := [d1, d2] }
  | _ => none }
def fnExactFillTextRow : OpenClaim := { program := "ytpgcpmfnidjhnaa", sum := "34637b86dcb2118651df2b74cfab85b1ea735c622755fca4eea42e8059dac352", func := "loop.example/typesetting/laws.FnExactFillText", spec := "fnExactFillText", inPlace := ["internal/abi.NoEscape", "internal/bytealg.MakeNoZero"], unfollowed := true, recurses := true, apart := false }
def FnExactFillTextSaid : Prop := fnExactFillTextRow.holds Try.pinned (OpenSpec.ofChange fnExactFillTextSpec)

/-- ITS FALSE NEIGHBOUR: 'it returns false'. Refute it at one input. -/
def fnExactFillTextWrong : ChangeSpec := { name := "fnExactFillText", fn := fun _ => fun
  | [d1, d2] => { results := [.lit (.bool false)], args := [d1, d2] }
  | _ => none }
def FnExactFillTextWrongFalsely : Prop := fnExactFillTextRow.holds Try.pinned (OpenSpec.ofChange fnExactFillTextWrong)

/- THE SECOND FORM. 'bulk': how many values and letters a reading holds, each counted each time it is reached (what is shared counts as often as it is met; a slice's spare places count too). A statement '..UptoSaid' is the law's where the arguments, and the package variables that the reading takes, are together of bulk at most 1048576: NARROWER than '..Said'. Prove '..Said' where nothing that the law and all that it calls make is longer than what came in: it says more and counts as full. Else prove '..UptoSaid'. A law counts once. -/
mutual
def uptoBulk {H : Type} : DataW H → Nat
  | .lit (.string bytes) => bytes.length + 1
  | .lit _ => 1
  | .nil => 1
  | .ptr d => uptoBulk d + 1
  | .slice elems spare => uptoBulkAll elems + uptoBulkAll spare + 1
  | .agg parts => uptoBulkAll parts + 1
  | .iface _ d => uptoBulk d + 1
  | .map entries => uptoBulkEntries entries + 1
  | .held _ => 1
def uptoBulkAll {H : Type} : List (DataW H) → Nat
  | [] => 0
  | d :: r => uptoBulk d + uptoBulkAll r
def uptoBulkEntries {H : Type} : List (Lit × DataW H) → Nat
  | [] => 0
  | x :: r => uptoBulkEntry x + uptoBulkEntries r
def uptoBulkEntry {H : Type} : Lit × DataW H → Nat
  | (.string bytes, d) => bytes.length + uptoBulk d + 1
  | (_, d) => uptoBulk d + 1
 end
def uptoSmall : (H : Type) → List (DataW H) → Bool := fun _ ds => decide (uptoBulkAll ds ≤ 1048576)
def OpenSpec.upto (s : _root_.Go.ChangeSpec) : _root_.Go.OpenSpec := { _root_.Go.OpenSpec.ofChange s with cond := some uptoSmall }

/-- 'laws.FnExactKeptLines', WHERE WHAT IT READS IS OF BULK AT MOST 1048576: true; the input reads as it did. -/
def fnExactKeptLinesUptoRow : OpenClaim := { program := "ytpgcpmfnidjhnaa", sum := "34637b86dcb2118651df2b74cfab85b1ea735c622755fca4eea42e8059dac352", func := "loop.example/typesetting/laws.FnExactKeptLines", spec := "fnExactKeptLines", apart := false, narrowed := true }
def FnExactKeptLinesUptoSaid : Prop := fnExactKeptLinesUptoRow.holds Try.pinned (OpenSpec.upto fnExactKeptLinesSpec)

/-- 'laws.FnKeptLines', WHERE WHAT IT READS IS OF BULK AT MOST 1048576: true; the input reads as it did. -/
def fnKeptLinesUptoRow : OpenClaim := { program := "ytpgcpmfnidjhnaa", sum := "34637b86dcb2118651df2b74cfab85b1ea735c622755fca4eea42e8059dac352", func := "loop.example/typesetting/laws.FnKeptLines", spec := "fnKeptLines", apart := false, narrowed := true }
def FnKeptLinesUptoSaid : Prop := fnKeptLinesUptoRow.holds Try.pinned (OpenSpec.upto fnKeptLinesSpec)

/-- 'laws.FnExactCommonItems', WHERE WHAT IT READS IS OF BULK AT MOST 1048576: true; the input reads as it did. -/
def fnExactCommonItemsUptoRow : OpenClaim := { program := "ytpgcpmfnidjhnaa", sum := "34637b86dcb2118651df2b74cfab85b1ea735c622755fca4eea42e8059dac352", func := "loop.example/typesetting/laws.FnExactCommonItems", spec := "fnExactCommonItems", unfollowed := true, recurses := true, apart := false, narrowed := true }
def FnExactCommonItemsUptoSaid : Prop := fnExactCommonItemsUptoRow.holds Try.pinned (OpenSpec.upto fnExactCommonItemsSpec)

/-- 'laws.FnCommonItems', WHERE WHAT IT READS IS OF BULK AT MOST 1048576: true; the input reads as it did. -/
def fnCommonItemsUptoRow : OpenClaim := { program := "ytpgcpmfnidjhnaa", sum := "34637b86dcb2118651df2b74cfab85b1ea735c622755fca4eea42e8059dac352", func := "loop.example/typesetting/laws.FnCommonItems", spec := "fnCommonItems", unfollowed := true, recurses := true, apart := false, narrowed := true }
def FnCommonItemsUptoSaid : Prop := fnCommonItemsUptoRow.holds Try.pinned (OpenSpec.upto fnCommonItemsSpec)

/-- 'laws.FnExactReplaceItems', WHERE WHAT IT READS IS OF BULK AT MOST 1048576: true; the input reads as it did. -/
def fnExactReplaceItemsUptoRow : OpenClaim := { program := "ytpgcpmfnidjhnaa", sum := "34637b86dcb2118651df2b74cfab85b1ea735c622755fca4eea42e8059dac352", func := "loop.example/typesetting/laws.FnExactReplaceItems", spec := "fnExactReplaceItems", unfollowed := true, recurses := true, apart := false, narrowed := true }
def FnExactReplaceItemsUptoSaid : Prop := fnExactReplaceItemsUptoRow.holds Try.pinned (OpenSpec.upto fnExactReplaceItemsSpec)

/-- 'laws.FnReplaceItems', WHERE WHAT IT READS IS OF BULK AT MOST 1048576: true; the input reads as it did. -/
def fnReplaceItemsUptoRow : OpenClaim := { program := "ytpgcpmfnidjhnaa", sum := "34637b86dcb2118651df2b74cfab85b1ea735c622755fca4eea42e8059dac352", func := "loop.example/typesetting/laws.FnReplaceItems", spec := "fnReplaceItems", unfollowed := true, recurses := true, apart := false, narrowed := true }
def FnReplaceItemsUptoSaid : Prop := fnReplaceItemsUptoRow.holds Try.pinned (OpenSpec.upto fnReplaceItemsSpec)

/-- 'laws.FnExactValidPlaced', WHERE WHAT IT READS IS OF BULK AT MOST 1048576: true; the input reads as it did. -/
def fnExactValidPlacedUptoRow : OpenClaim := { program := "ytpgcpmfnidjhnaa", sum := "34637b86dcb2118651df2b74cfab85b1ea735c622755fca4eea42e8059dac352", func := "loop.example/typesetting/laws.FnExactValidPlaced", spec := "fnExactValidPlaced", apart := false, narrowed := true }
def FnExactValidPlacedUptoSaid : Prop := fnExactValidPlacedUptoRow.holds Try.pinned (OpenSpec.upto fnExactValidPlacedSpec)

/-- 'laws.FnValidPlaced', WHERE WHAT IT READS IS OF BULK AT MOST 1048576: true; the input reads as it did. -/
def fnValidPlacedUptoRow : OpenClaim := { program := "ytpgcpmfnidjhnaa", sum := "34637b86dcb2118651df2b74cfab85b1ea735c622755fca4eea42e8059dac352", func := "loop.example/typesetting/laws.FnValidPlaced", spec := "fnValidPlaced", apart := false, narrowed := true }
def FnValidPlacedUptoSaid : Prop := fnValidPlacedUptoRow.holds Try.pinned (OpenSpec.upto fnValidPlacedSpec)

/-- 'laws.FnExactOverlaps', WHERE WHAT IT READS IS OF BULK AT MOST 1048576: true; the input reads as it did. -/
def fnExactOverlapsUptoRow : OpenClaim := { program := "ytpgcpmfnidjhnaa", sum := "34637b86dcb2118651df2b74cfab85b1ea735c622755fca4eea42e8059dac352", func := "loop.example/typesetting/laws.FnExactOverlaps", spec := "fnExactOverlaps", apart := false, narrowed := true }
def FnExactOverlapsUptoSaid : Prop := fnExactOverlapsUptoRow.holds Try.pinned (OpenSpec.upto fnExactOverlapsSpec)

/-- 'laws.FnOverlaps', WHERE WHAT IT READS IS OF BULK AT MOST 1048576: true; the input reads as it did. -/
def fnOverlapsUptoRow : OpenClaim := { program := "ytpgcpmfnidjhnaa", sum := "34637b86dcb2118651df2b74cfab85b1ea735c622755fca4eea42e8059dac352", func := "loop.example/typesetting/laws.FnOverlaps", spec := "fnOverlaps", apart := false, narrowed := true }
def FnOverlapsUptoSaid : Prop := fnOverlapsUptoRow.holds Try.pinned (OpenSpec.upto fnOverlapsSpec)

/-- 'laws.FnExactFillLine', WHERE WHAT IT READS IS OF BULK AT MOST 1048576: true; the input reads as it did. -/
def fnExactFillLineUptoRow : OpenClaim := { program := "ytpgcpmfnidjhnaa", sum := "34637b86dcb2118651df2b74cfab85b1ea735c622755fca4eea42e8059dac352", func := "loop.example/typesetting/laws.FnExactFillLine", spec := "fnExactFillLine", inPlace := ["internal/abi.NoEscape", "internal/bytealg.MakeNoZero"], apart := false, narrowed := true }
def FnExactFillLineUptoSaid : Prop := fnExactFillLineUptoRow.holds Try.pinned (OpenSpec.upto fnExactFillLineSpec)

/-- 'laws.FnFillLine', WHERE WHAT IT READS IS OF BULK AT MOST 1048576: true; the input reads as it did. -/
def fnFillLineUptoRow : OpenClaim := { program := "ytpgcpmfnidjhnaa", sum := "34637b86dcb2118651df2b74cfab85b1ea735c622755fca4eea42e8059dac352", func := "loop.example/typesetting/laws.FnFillLine", spec := "fnFillLine", inPlace := ["internal/abi.NoEscape", "internal/bytealg.MakeNoZero"], apart := false, narrowed := true }
def FnFillLineUptoSaid : Prop := fnFillLineUptoRow.holds Try.pinned (OpenSpec.upto fnFillLineSpec)

/-- 'laws.FnFillEven', WHERE WHAT IT READS IS OF BULK AT MOST 1048576: true; the input reads as it did. -/
def fnFillEvenUptoRow : OpenClaim := { program := "ytpgcpmfnidjhnaa", sum := "34637b86dcb2118651df2b74cfab85b1ea735c622755fca4eea42e8059dac352", func := "loop.example/typesetting/laws.FnFillEven", spec := "fnFillEven", inPlace := ["internal/abi.NoEscape", "internal/bytealg.MakeNoZero"], apart := false, narrowed := true }
def FnFillEvenUptoSaid : Prop := fnFillEvenUptoRow.holds Try.pinned (OpenSpec.upto fnFillEvenSpec)

/-- 'laws.FnExactWrapCost', WHERE WHAT IT READS IS OF BULK AT MOST 1048576: true; the input reads as it did. -/
def fnExactWrapCostUptoRow : OpenClaim := { program := "ytpgcpmfnidjhnaa", sum := "34637b86dcb2118651df2b74cfab85b1ea735c622755fca4eea42e8059dac352", func := "loop.example/typesetting/laws.FnExactWrapCost", spec := "fnExactWrapCost", unfollowed := true, recurses := true, apart := false, narrowed := true }
def FnExactWrapCostUptoSaid : Prop := fnExactWrapCostUptoRow.holds Try.pinned (OpenSpec.upto fnExactWrapCostSpec)

/-- 'laws.FnExactWrapWords', WHERE WHAT IT READS IS OF BULK AT MOST 1048576: true; the input reads as it did. -/
def fnExactWrapWordsUptoRow : OpenClaim := { program := "ytpgcpmfnidjhnaa", sum := "34637b86dcb2118651df2b74cfab85b1ea735c622755fca4eea42e8059dac352", func := "loop.example/typesetting/laws.FnExactWrapWords", spec := "fnExactWrapWords", unfollowed := true, recurses := true, apart := false, narrowed := true }
def FnExactWrapWordsUptoSaid : Prop := fnExactWrapWordsUptoRow.holds Try.pinned (OpenSpec.upto fnExactWrapWordsSpec)

/-- 'laws.FnExactFillText', WHERE WHAT IT READS IS OF BULK AT MOST 1048576: true; the input reads as it did. -/
def fnExactFillTextUptoRow : OpenClaim := { program := "ytpgcpmfnidjhnaa", sum := "34637b86dcb2118651df2b74cfab85b1ea735c622755fca4eea42e8059dac352", func := "loop.example/typesetting/laws.FnExactFillText", spec := "fnExactFillText", inPlace := ["internal/abi.NoEscape", "internal/bytealg.MakeNoZero"], unfollowed := true, recurses := true, apart := false, narrowed := true }
def FnExactFillTextUptoSaid : Prop := fnExactFillTextUptoRow.holds Try.pinned (OpenSpec.upto fnExactFillTextSpec)

end Rows
end Go.Proofs.Ytpgcpmfnidjhnaa
