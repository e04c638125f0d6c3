/-
  No cell of these rows narrows 'for every input' (looked for: loops, veiled, ifaces, maps, wideKeys, modest, calm, conditions, laid).
  DERIVED. THE GIVEN ROWS OF THIS SEAT. 11 by the template 'for every input the law returns true; each argument reads behind the call as it read before'; 0 by the template 'total and deterministic' (their statements: YtlkfpcajpdohiaaTotals.lean).
  GIVEN WITH THE SEED: the statements are not yours to turn. If you find one false, say at which input.
  Laid BY PROGRAM, IN A SANDBOX (cutbox-rows.mjs): the forced cells as the released guide's own fill.sh prints them over the translation 8326d5cd5e6306db… (all of the seat's roots in one cut). By AI agents, Wed Nov 11 2026. No macro, syntax, notation, axiom, sorry.
-/
import Derived.Test.YtlkfpcajpdohiaaChecked
import GoSem.Claim
import GoSem.ClaimJoined
import GoSem.ClaimMapViews
import Derived.JoinedTies
import Derived.KernelRfl
namespace Go.Proofs.Ytlkfpcajpdohiaa
/- THE CELL 'sum', in the pinned program and in every row, IS THE sha256 OF THE DUMP (.gsa) THAT YtlkfpcajpdohiaaProg.lean LOADS. Nothing in Lean hashes anything: it is a label: what it is worth is what the hold of that sum in a sandbox is worth. -/
noncomputable def Try.pinned : Pinned := { name := "ytlkfpcajpdohiaa", sum := "8326d5cd5e6306dbd14dded68df74952ba6d0d516c0d60384f93c4b698f57d73", checked := Try.checked }
namespace Rows
def none {H : Type} : Left H := { results := [], args := [] }

/-- 'laws.FnExactFirstChange': WHATEVER THE INPUT: true; the input reads as it did. -/
def fnExactFirstChangeSpec : ChangeSpec := { name := "fnExactFirstChange", fn := fun _ => fun
  | [d1, d2, d3] => { results := [.lit (.bool true)], args := [d1, d2, d3] }
  | _ => none }
def fnExactFirstChangeRow : OpenClaim := { program := "ytlkfpcajpdohiaa", sum := "8326d5cd5e6306dbd14dded68df74952ba6d0d516c0d60384f93c4b698f57d73", func := "loop.example/typesetting/laws.FnExactFirstChange", spec := "fnExactFirstChange", unfollowed := true, recurses := true, apart := false }
def FnExactFirstChangeSaid : Prop := fnExactFirstChangeRow.holds Try.pinned (OpenSpec.ofChange fnExactFirstChangeSpec)

/-- ITS FALSE NEIGHBOUR: 'it returns false'. Refute it at one input. -/
def fnExactFirstChangeWrong : ChangeSpec := { name := "fnExactFirstChange", fn := fun _ => fun
  | [d1, d2, d3] => { results := [.lit (.bool false)], args := [d1, d2, d3] }
  | _ => none }
def FnExactFirstChangeWrongFalsely : Prop := fnExactFirstChangeRow.holds Try.pinned (OpenSpec.ofChange fnExactFirstChangeWrong)

/-- 'laws.FnFirstChange': WHATEVER THE INPUT: true; the input reads as it did. -/
def fnFirstChangeSpec : ChangeSpec := { name := "fnFirstChange", fn := fun _ => fun
  | [d] => { results := [.lit (.bool true)], args := [d] }
  | _ => none }
def fnFirstChangeRow : OpenClaim := { program := "ytlkfpcajpdohiaa", sum := "8326d5cd5e6306dbd14dded68df74952ba6d0d516c0d60384f93c4b698f57d73", func := "loop.example/typesetting/laws.FnFirstChange", spec := "fnFirstChange", unfollowed := true, recurses := true, apart := false }
def FnFirstChangeSaid : Prop := fnFirstChangeRow.holds Try.pinned (OpenSpec.ofChange fnFirstChangeSpec)

/-- ITS FALSE NEIGHBOUR: 'it returns false'. Refute it at one input. -/
def fnFirstChangeWrong : ChangeSpec := { name := "fnFirstChange", fn := fun _ => fun
  | [d] => { results := [.lit (.bool false)], args := [d] }
  | _ => none }
def FnFirstChangeWrongFalsely : Prop := fnFirstChangeRow.holds Try.pinned (OpenSpec.ofChange fnFirstChangeWrong)

/-- 'laws.FnChangeCommon': WHATEVER THE INPUT: true; the input reads as it did. -/
def fnChangeCommonSpec : ChangeSpec := { name := "fnChangeCommon", fn := fun _ => fun
  | [d] => { results := [.lit (.bool true)], args := [d] }
  | _ => none }
def fnChangeCommonRow : OpenClaim := { program := "ytlkfpcajpdohiaa", sum := "8326d5cd5e6306dbd14dded68df74952ba6d0d516c0d60384f93c4b698f57d73", func := "loop.example/typesetting/laws.FnChangeCommon", spec := "fnChangeCommon", unfollowed := true, recurses := true, apart := false }
def FnChangeCommonSaid : Prop := fnChangeCommonRow.holds Try.pinned (OpenSpec.ofChange fnChangeCommonSpec)

/-- ITS FALSE NEIGHBOUR: 'it returns false'. Refute it at one input. -/
def fnChangeCommonWrong : ChangeSpec := { name := "fnChangeCommon", fn := fun _ => fun
  | [d] => { results := [.lit (.bool false)], args := [d] }
  | _ => none }
def FnChangeCommonWrongFalsely : Prop := fnChangeCommonRow.holds Try.pinned (OpenSpec.ofChange fnChangeCommonWrong)

/-- 'laws.FnExactReplaceItems': WHATEVER THE INPUT: true; the input reads as it did. -/
def fnExactReplaceItemsSpec : ChangeSpec := { name := "fnExactReplaceItems", fn := fun _ => fun
  | [d1, d2, d3, d4] => { results := [.lit (.bool true)], args := [d1, d2, d3, d4] }
  | _ => none }
def fnExactReplaceItemsRow : OpenClaim := { program := "ytlkfpcajpdohiaa", sum := "8326d5cd5e6306dbd14dded68df74952ba6d0d516c0d60384f93c4b698f57d73", func := "loop.example/typesetting/laws.FnExactReplaceItems", spec := "fnExactReplaceItems", unfollowed := true, recurses := true, apart := false }
def FnExactReplaceItemsSaid : Prop := fnExactReplaceItemsRow.holds Try.pinned (OpenSpec.ofChange fnExactReplaceItemsSpec)

/-- ITS FALSE NEIGHBOUR: 'it returns false'. Refute it at one input. -/
def fnExactReplaceItemsWrong : ChangeSpec := { name := "fnExactReplaceItems", fn := fun _ => fun
  | [d1, d2, d3, d4] => { results := [.lit (.bool false)], args := [d1, d2, d3, d4] }
  | _ => none }
def FnExactReplaceItemsWrongFalsely : Prop := fnExactReplaceItemsRow.holds Try.pinned (OpenSpec.ofChange fnExactReplaceItemsWrong)

/-- 'laws.FnReplaceItems': WHATEVER THE INPUT: true; the input reads as it did. -/
def fnReplaceItemsSpec : ChangeSpec := { name := "fnReplaceItems", fn := fun _ => fun
  | [d] => { results := [.lit (.bool true)], args := [d] }
  | _ => none }
def fnReplaceItemsRow : OpenClaim := { program := "ytlkfpcajpdohiaa", sum := "8326d5cd5e6306dbd14dded68df74952ba6d0d516c0d60384f93c4b698f57d73", func := "loop.example/typesetting/laws.FnReplaceItems", spec := "fnReplaceItems", unfollowed := true, recurses := true, apart := false }
def FnReplaceItemsSaid : Prop := fnReplaceItemsRow.holds Try.pinned (OpenSpec.ofChange fnReplaceItemsSpec)

/-- ITS FALSE NEIGHBOUR: 'it returns false'. Refute it at one input. -/
def fnReplaceItemsWrong : ChangeSpec := { name := "fnReplaceItems", fn := fun _ => fun
  | [d] => { results := [.lit (.bool false)], args := [d] }
  | _ => none }
def FnReplaceItemsWrongFalsely : Prop := fnReplaceItemsRow.holds Try.pinned (OpenSpec.ofChange fnReplaceItemsWrong)

/-- 'laws.FnReplaceBack': WHATEVER THE INPUT: true; the input reads as it did. -/
def fnReplaceBackSpec : ChangeSpec := { name := "fnReplaceBack", fn := fun _ => fun
  | [d] => { results := [.lit (.bool true)], args := [d] }
  | _ => none }
def fnReplaceBackRow : OpenClaim := { program := "ytlkfpcajpdohiaa", sum := "8326d5cd5e6306dbd14dded68df74952ba6d0d516c0d60384f93c4b698f57d73", func := "loop.example/typesetting/laws.FnReplaceBack", spec := "fnReplaceBack", unfollowed := true, recurses := true, apart := false }
def FnReplaceBackSaid : Prop := fnReplaceBackRow.holds Try.pinned (OpenSpec.ofChange fnReplaceBackSpec)

/-- ITS FALSE NEIGHBOUR: 'it returns false'. Refute it at one input. -/
def fnReplaceBackWrong : ChangeSpec := { name := "fnReplaceBack", fn := fun _ => fun
  | [d] => { results := [.lit (.bool false)], args := [d] }
  | _ => none }
def FnReplaceBackWrongFalsely : Prop := fnReplaceBackRow.holds Try.pinned (OpenSpec.ofChange fnReplaceBackWrong)

/-- 'laws.FnExactTextLines': WHATEVER THE INPUT: true; the input reads as it did. -/
def fnExactTextLinesSpec : ChangeSpec := { name := "fnExactTextLines", fn := fun _ => fun
  | [d1, d2] => { results := [.lit (.bool true)], args := [d1, d2] }
  | _ => none }
def fnExactTextLinesRow : OpenClaim := { program := "ytlkfpcajpdohiaa", sum := "8326d5cd5e6306dbd14dded68df74952ba6d0d516c0d60384f93c4b698f57d73", func := "loop.example/typesetting/laws.FnExactTextLines", spec := "fnExactTextLines", unfollowed := true, recurses := true, apart := false }
def FnExactTextLinesSaid : Prop := fnExactTextLinesRow.holds Try.pinned (OpenSpec.ofChange fnExactTextLinesSpec)

/-- ITS FALSE NEIGHBOUR: 'it returns false'. Refute it at one input. -/
def fnExactTextLinesWrong : ChangeSpec := { name := "fnExactTextLines", fn := fun _ => fun
  | [d1, d2] => { results := [.lit (.bool false)], args := [d1, d2] }
  | _ => none }
def FnExactTextLinesWrongFalsely : Prop := fnExactTextLinesRow.holds Try.pinned (OpenSpec.ofChange fnExactTextLinesWrong)

/-- 'laws.FnTextLines': WHATEVER THE INPUT: true; the input reads as it did. -/
def fnTextLinesSpec : ChangeSpec := { name := "fnTextLines", fn := fun _ => fun
  | [d] => { results := [.lit (.bool true)], args := [d] }
  | _ => none }
def fnTextLinesRow : OpenClaim := { program := "ytlkfpcajpdohiaa", sum := "8326d5cd5e6306dbd14dded68df74952ba6d0d516c0d60384f93c4b698f57d73", func := "loop.example/typesetting/laws.FnTextLines", spec := "fnTextLines", unfollowed := true, recurses := true, apart := false }
def FnTextLinesSaid : Prop := fnTextLinesRow.holds Try.pinned (OpenSpec.ofChange fnTextLinesSpec)

/-- ITS FALSE NEIGHBOUR: 'it returns false'. Refute it at one input. -/
def fnTextLinesWrong : ChangeSpec := { name := "fnTextLines", fn := fun _ => fun
  | [d] => { results := [.lit (.bool false)], args := [d] }
  | _ => none }
def FnTextLinesWrongFalsely : Prop := fnTextLinesRow.holds Try.pinned (OpenSpec.ofChange fnTextLinesWrong)

/-- 'laws.FnWidowPenalties': WHATEVER THE INPUT: true; the input reads as it did. -/
def fnWidowPenaltiesSpec : ChangeSpec := { name := "fnWidowPenalties", fn := fun _ => fun
  | [d] => { results := [.lit (.bool true)], args := [d] }
  | _ => none }
def fnWidowPenaltiesRow : OpenClaim := { program := "ytlkfpcajpdohiaa", sum := "8326d5cd5e6306dbd14dded68df74952ba6d0d516c0d60384f93c4b698f57d73", func := "loop.example/typesetting/laws.FnWidowPenalties", spec := "fnWidowPenalties", unfollowed := true, recurses := true, apart := false }
def FnWidowPenaltiesSaid : Prop := fnWidowPenaltiesRow.holds Try.pinned (OpenSpec.ofChange fnWidowPenaltiesSpec)

/-- ITS FALSE NEIGHBOUR: 'it returns false'. Refute it at one input. -/
def fnWidowPenaltiesWrong : ChangeSpec := { name := "fnWidowPenalties", fn := fun _ => fun
  | [d] => { results := [.lit (.bool false)], args := [d] }
  | _ => none }
def FnWidowPenaltiesWrongFalsely : Prop := fnWidowPenaltiesRow.holds Try.pinned (OpenSpec.ofChange fnWidowPenaltiesWrong)

/-- 'laws.FnExactStretchColumns': WHATEVER THE INPUT: true; the input reads as it did. -/
def fnExactStretchColumnsSpec : ChangeSpec := { name := "fnExactStretchColumns", fn := fun _ => fun
  | [d1, d2] => { results := [.lit (.bool true)], args := [d1, d2] }
  | _ => none }
def fnExactStretchColumnsRow : OpenClaim := { program := "ytlkfpcajpdohiaa", sum := "8326d5cd5e6306dbd14dded68df74952ba6d0d516c0d60384f93c4b698f57d73", func := "loop.example/typesetting/laws.FnExactStretchColumns", spec := "fnExactStretchColumns", apart := false }
def FnExactStretchColumnsSaid : Prop := fnExactStretchColumnsRow.holds Try.pinned (OpenSpec.ofChange fnExactStretchColumnsSpec)

/-- ITS FALSE NEIGHBOUR: 'it returns false'. Refute it at one input. -/
def fnExactStretchColumnsWrong : ChangeSpec := { name := "fnExactStretchColumns", fn := fun _ => fun
  | [d1, d2] => { results := [.lit (.bool false)], args := [d1, d2] }
  | _ => none }
def FnExactStretchColumnsWrongFalsely : Prop := fnExactStretchColumnsRow.holds Try.pinned (OpenSpec.ofChange fnExactStretchColumnsWrong)

/-- 'laws.FnStretchColumns': WHATEVER THE INPUT: true; the input reads as it did. -/
def fnStretchColumnsSpec : ChangeSpec := { name := "fnStretchColumns", fn := fun _ => fun
  | [d] => { results := [.lit (.bool true)], args := [d] }
  | _ => none }
def fnStretchColumnsRow : OpenClaim := { program := "ytlkfpcajpdohiaa", sum := "8326d5cd5e6306dbd14dded68df74952ba6d0d516c0d60384f93c4b698f57d73", func := "loop.example/typesetting/laws.FnStretchColumns", spec := "fnStretchColumns", apart := false }
def FnStretchColumnsSaid : Prop := fnStretchColumnsRow.holds Try.pinned (OpenSpec.ofChange fnStretchColumnsSpec)

/-- ITS FALSE NEIGHBOUR: 'it returns false'. Refute it at one input. -/
def fnStretchColumnsWrong : ChangeSpec := { name := "fnStretchColumns", fn := fun _ => fun
  | [d] => { results := [.lit (.bool false)], args := [d] }
  | _ => none }
def FnStretchColumnsWrongFalsely : Prop := fnStretchColumnsRow.holds Try.pinned (OpenSpec.ofChange fnStretchColumnsWrong)

/- THE SECOND FORM. 'bulk': how many values and letters a reading holds, each counted each time it is reached (what is shared counts as often as it is met; a slice's spare places count too). A statement '..UptoSaid' is the law's where the arguments, and the package variables that the reading takes, are together of bulk at most 1048576: NARROWER than '..Said'. Prove '..Said' where nothing that the law and all that it calls make is longer than what came in: it says more and counts as full. Else prove '..UptoSaid'. A law counts once. -/
mutual
def uptoBulk {H : Type} : DataW H → Nat
  | .lit (.string bytes) => bytes.length + 1
  | .lit _ => 1
  | .nil => 1
  | .ptr d => uptoBulk d + 1
  | .slice elems spare => uptoBulkAll elems + uptoBulkAll spare + 1
  | .agg parts => uptoBulkAll parts + 1
  | .iface _ d => uptoBulk d + 1
  | .map entries => uptoBulkEntries entries + 1
  | .held _ => 1
def uptoBulkAll {H : Type} : List (DataW H) → Nat
  | [] => 0
  | d :: r => uptoBulk d + uptoBulkAll r
def uptoBulkEntries {H : Type} : List (Lit × DataW H) → Nat
  | [] => 0
  | x :: r => uptoBulkEntry x + uptoBulkEntries r
def uptoBulkEntry {H : Type} : Lit × DataW H → Nat
  | (.string bytes, d) => bytes.length + uptoBulk d + 1
  | (_, d) => uptoBulk d + 1
 end
def uptoSmall : (H : Type) → List (DataW H) → Bool := fun _ ds => decide (uptoBulkAll ds ≤ 1048576)
def OpenSpec.upto (s : _root_.Go.ChangeSpec) : _root_.Go.OpenSpec := { _root_.Go.OpenSpec.ofChange s with cond := some uptoSmall }

/-- 'laws.FnExactFirstChange', WHERE WHAT IT READS IS OF BULK AT MOST 1048576: true; the input reads as it did. -/
def fnExactFirstChangeUptoRow : OpenClaim := { program := "ytlkfpcajpdohiaa", sum := "8326d5cd5e6306dbd14dded68df74952ba6d0d516c0d60384f93c4b698f57d73", func := "loop.example/typesetting/laws.FnExactFirstChange", spec := "fnExactFirstChange", unfollowed := true, recurses := true, apart := false, narrowed := true }
def FnExactFirstChangeUptoSaid : Prop := fnExactFirstChangeUptoRow.holds Try.pinned (OpenSpec.upto fnExactFirstChangeSpec)

/-- 'laws.FnFirstChange', WHERE WHAT IT READS IS OF BULK AT MOST 1048576: true; the input reads as it did. -/
def fnFirstChangeUptoRow : OpenClaim := { program := "ytlkfpcajpdohiaa", sum := "8326d5cd5e6306dbd14dded68df74952ba6d0d516c0d60384f93c4b698f57d73", func := "loop.example/typesetting/laws.FnFirstChange", spec := "fnFirstChange", unfollowed := true, recurses := true, apart := false, narrowed := true }
def FnFirstChangeUptoSaid : Prop := fnFirstChangeUptoRow.holds Try.pinned (OpenSpec.upto fnFirstChangeSpec)

/-- 'laws.FnChangeCommon', WHERE WHAT IT READS IS OF BULK AT MOST 1048576: true; the input reads as it did. -/
def fnChangeCommonUptoRow : OpenClaim := { program := "ytlkfpcajpdohiaa", sum := "8326d5cd5e6306dbd14dded68df74952ba6d0d516c0d60384f93c4b698f57d73", func := "loop.example/typesetting/laws.FnChangeCommon", spec := "fnChangeCommon", unfollowed := true, recurses := true, apart := false, narrowed := true }
def FnChangeCommonUptoSaid : Prop := fnChangeCommonUptoRow.holds Try.pinned (OpenSpec.upto fnChangeCommonSpec)

/-- 'laws.FnExactReplaceItems', WHERE WHAT IT READS IS OF BULK AT MOST 1048576: true; the input reads as it did. -/
def fnExactReplaceItemsUptoRow : OpenClaim := { program := "ytlkfpcajpdohiaa", sum := "8326d5cd5e6306dbd14dded68df74952ba6d0d516c0d60384f93c4b698f57d73", func := "loop.example/typesetting/laws.FnExactReplaceItems", spec := "fnExactReplaceItems", unfollowed := true, recurses := true, apart := false, narrowed := true }
def FnExactReplaceItemsUptoSaid : Prop := fnExactReplaceItemsUptoRow.holds Try.pinned (OpenSpec.upto fnExactReplaceItemsSpec)

/-- 'laws.FnReplaceItems', WHERE WHAT IT READS IS OF BULK AT MOST 1048576: true; the input reads as it did. -/
def fnReplaceItemsUptoRow : OpenClaim := { program := "ytlkfpcajpdohiaa", sum := "8326d5cd5e6306dbd14dded68df74952ba6d0d516c0d60384f93c4b698f57d73", func := "loop.example/typesetting/laws.FnReplaceItems", spec := "fnReplaceItems", unfollowed := true, recurses := true, apart := false, narrowed := true }
def FnReplaceItemsUptoSaid : Prop := fnReplaceItemsUptoRow.holds Try.pinned (OpenSpec.upto fnReplaceItemsSpec)

/-- 'laws.FnReplaceBack', WHERE WHAT IT READS IS OF BULK AT MOST 1048576: true; the input reads as it did. -/
def fnReplaceBackUptoRow : OpenClaim := { program := "ytlkfpcajpdohiaa", sum := "8326d5cd5e6306dbd14dded68df74952ba6d0d516c0d60384f93c4b698f57d73", func := "loop.example/typesetting/laws.FnReplaceBack", spec := "fnReplaceBack", unfollowed := true, recurses := true, apart := false, narrowed := true }
def FnReplaceBackUptoSaid : Prop := fnReplaceBackUptoRow.holds Try.pinned (OpenSpec.upto fnReplaceBackSpec)

/-- 'laws.FnExactTextLines', WHERE WHAT IT READS IS OF BULK AT MOST 1048576: true; the input reads as it did. -/
def fnExactTextLinesUptoRow : OpenClaim := { program := "ytlkfpcajpdohiaa", sum := "8326d5cd5e6306dbd14dded68df74952ba6d0d516c0d60384f93c4b698f57d73", func := "loop.example/typesetting/laws.FnExactTextLines", spec := "fnExactTextLines", unfollowed := true, recurses := true, apart := false, narrowed := true }
def FnExactTextLinesUptoSaid : Prop := fnExactTextLinesUptoRow.holds Try.pinned (OpenSpec.upto fnExactTextLinesSpec)

/-- 'laws.FnTextLines', WHERE WHAT IT READS IS OF BULK AT MOST 1048576: true; the input reads as it did. -/
def fnTextLinesUptoRow : OpenClaim := { program := "ytlkfpcajpdohiaa", sum := "8326d5cd5e6306dbd14dded68df74952ba6d0d516c0d60384f93c4b698f57d73", func := "loop.example/typesetting/laws.FnTextLines", spec := "fnTextLines", unfollowed := true, recurses := true, apart := false, narrowed := true }
def FnTextLinesUptoSaid : Prop := fnTextLinesUptoRow.holds Try.pinned (OpenSpec.upto fnTextLinesSpec)

/-- 'laws.FnWidowPenalties', WHERE WHAT IT READS IS OF BULK AT MOST 1048576: true; the input reads as it did. -/
def fnWidowPenaltiesUptoRow : OpenClaim := { program := "ytlkfpcajpdohiaa", sum := "8326d5cd5e6306dbd14dded68df74952ba6d0d516c0d60384f93c4b698f57d73", func := "loop.example/typesetting/laws.FnWidowPenalties", spec := "fnWidowPenalties", unfollowed := true, recurses := true, apart := false, narrowed := true }
def FnWidowPenaltiesUptoSaid : Prop := fnWidowPenaltiesUptoRow.holds Try.pinned (OpenSpec.upto fnWidowPenaltiesSpec)

/-- 'laws.FnExactStretchColumns', WHERE WHAT IT READS IS OF BULK AT MOST 1048576: true; the input reads as it did. -/
def fnExactStretchColumnsUptoRow : OpenClaim := { program := "ytlkfpcajpdohiaa", sum := "8326d5cd5e6306dbd14dded68df74952ba6d0d516c0d60384f93c4b698f57d73", func := "loop.example/typesetting/laws.FnExactStretchColumns", spec := "fnExactStretchColumns", apart := false, narrowed := true }
def FnExactStretchColumnsUptoSaid : Prop := fnExactStretchColumnsUptoRow.holds Try.pinned (OpenSpec.upto fnExactStretchColumnsSpec)

/-- 'laws.FnStretchColumns', WHERE WHAT IT READS IS OF BULK AT MOST 1048576: true; the input reads as it did. -/
def fnStretchColumnsUptoRow : OpenClaim := { program := "ytlkfpcajpdohiaa", sum := "8326d5cd5e6306dbd14dded68df74952ba6d0d516c0d60384f93c4b698f57d73", func := "loop.example/typesetting/laws.FnStretchColumns", spec := "fnStretchColumns", apart := false, narrowed := true }
def FnStretchColumnsUptoSaid : Prop := fnStretchColumnsUptoRow.holds Try.pinned (OpenSpec.upto fnStretchColumnsSpec)

end Rows
end Go.Proofs.Ytlkfpcajpdohiaa
