/-
  No cell of these rows narrows 'for every input' (looked for: loops, veiled, ifaces, maps, wideKeys, modest, calm, conditions, laid).
  DERIVED. THE GIVEN ROWS OF THIS SEAT. 14 by the template 'for every input the law returns true; each argument reads behind the call as it read before'; 0 by the template 'total and deterministic' (their statements: YtkclecfjpabplaaTotals.lean).
  GIVEN WITH THE SEED: the statements are not yours to turn. If you find one false, say at which input.
  Laid BY PROGRAM, IN A SANDBOX (cutbox-rows.mjs): the forced cells as the released guide's own fill.sh prints them over the translation d7aa1c2332de4efc… (all of the seat's roots in one cut). By AI agents, Wed Nov 11 2026. No macro, syntax, notation, axiom, sorry.
-/
import Derived.Test.YtkclecfjpabplaaChecked
import GoSem.Claim
import GoSem.ClaimJoined
import GoSem.ClaimMapViews
import Derived.JoinedTies
import Derived.KernelRfl
namespace Go.Proofs.Ytkclecfjpabplaa
/- THE CELL 'sum', in the pinned program and in every row, IS THE sha256 OF THE DUMP (.gsa) THAT YtkclecfjpabplaaProg.lean LOADS. Nothing in Lean hashes anything: it is a label: what it is worth is what the hold of that sum in a sandbox is worth. -/
noncomputable def Try.pinned : Pinned := { name := "ytkclecfjpabplaa", sum := "d7aa1c2332de4efc1adc031bdea8ca0a6a87961aba8d1a432a61e77b922c1fed", checked := Try.checked }
namespace Rows
def none {H : Type} : Left H := { results := [], args := [] }

/-- 'laws.FnExactCheckColumns': WHATEVER THE INPUT: true; the input reads as it did. -/
def fnExactCheckColumnsSpec : ChangeSpec := { name := "fnExactCheckColumns", fn := fun _ => fun
  | [d1, d2] => { results := [.lit (.bool true)], args := [d1, d2] }
  | _ => none }
def fnExactCheckColumnsRow : OpenClaim := { program := "ytkclecfjpabplaa", sum := "d7aa1c2332de4efc1adc031bdea8ca0a6a87961aba8d1a432a61e77b922c1fed", func := "loop.example/typesetting/laws.FnExactCheckColumns", spec := "fnExactCheckColumns", unfollowed := true, recurses := true, apart := false }
def FnExactCheckColumnsSaid : Prop := fnExactCheckColumnsRow.holds Try.pinned (OpenSpec.ofChange fnExactCheckColumnsSpec)

/-- ITS FALSE NEIGHBOUR: 'it returns false'. Refute it at one input. -/
def fnExactCheckColumnsWrong : ChangeSpec := { name := "fnExactCheckColumns", fn := fun _ => fun
  | [d1, d2] => { results := [.lit (.bool false)], args := [d1, d2] }
  | _ => none }
def FnExactCheckColumnsWrongFalsely : Prop := fnExactCheckColumnsRow.holds Try.pinned (OpenSpec.ofChange fnExactCheckColumnsWrong)

/-- 'laws.FnCheckColumns': WHATEVER THE INPUT: true; the input reads as it did. -/
def fnCheckColumnsSpec : ChangeSpec := { name := "fnCheckColumns", fn := fun _ => fun
  | [d] => { results := [.lit (.bool true)], args := [d] }
  | _ => none }
def fnCheckColumnsRow : OpenClaim := { program := "ytkclecfjpabplaa", sum := "d7aa1c2332de4efc1adc031bdea8ca0a6a87961aba8d1a432a61e77b922c1fed", func := "loop.example/typesetting/laws.FnCheckColumns", spec := "fnCheckColumns", unfollowed := true, recurses := true, apart := false }
def FnCheckColumnsSaid : Prop := fnCheckColumnsRow.holds Try.pinned (OpenSpec.ofChange fnCheckColumnsSpec)

/-- ITS FALSE NEIGHBOUR: 'it returns false'. Refute it at one input. -/
def fnCheckColumnsWrong : ChangeSpec := { name := "fnCheckColumns", fn := fun _ => fun
  | [d] => { results := [.lit (.bool false)], args := [d] }
  | _ => none }
def FnCheckColumnsWrongFalsely : Prop := fnCheckColumnsRow.holds Try.pinned (OpenSpec.ofChange fnCheckColumnsWrong)

/-- 'laws.FnBalanceColumns': WHATEVER THE INPUT: true; the input reads as it did. -/
def fnBalanceColumnsSpec : ChangeSpec := { name := "fnBalanceColumns", fn := fun _ => fun
  | [d] => { results := [.lit (.bool true)], args := [d] }
  | _ => none }
def fnBalanceColumnsRow : OpenClaim := { program := "ytkclecfjpabplaa", sum := "d7aa1c2332de4efc1adc031bdea8ca0a6a87961aba8d1a432a61e77b922c1fed", func := "loop.example/typesetting/laws.FnBalanceColumns", spec := "fnBalanceColumns", unfollowed := true, recurses := true, apart := false }
def FnBalanceColumnsSaid : Prop := fnBalanceColumnsRow.holds Try.pinned (OpenSpec.ofChange fnBalanceColumnsSpec)

/-- ITS FALSE NEIGHBOUR: 'it returns false'. Refute it at one input. -/
def fnBalanceColumnsWrong : ChangeSpec := { name := "fnBalanceColumns", fn := fun _ => fun
  | [d] => { results := [.lit (.bool false)], args := [d] }
  | _ => none }
def FnBalanceColumnsWrongFalsely : Prop := fnBalanceColumnsRow.holds Try.pinned (OpenSpec.ofChange fnBalanceColumnsWrong)

/-- 'laws.FnBalanced': WHATEVER THE INPUT: true; the input reads as it did. -/
def fnBalancedSpec : ChangeSpec := { name := "fnBalanced", fn := fun _ => fun
  | [d] => { results := [.lit (.bool true)], args := [d] }
  | _ => none }
def fnBalancedRow : OpenClaim := { program := "ytkclecfjpabplaa", sum := "d7aa1c2332de4efc1adc031bdea8ca0a6a87961aba8d1a432a61e77b922c1fed", func := "loop.example/typesetting/laws.FnBalanced", spec := "fnBalanced", unfollowed := true, recurses := true, apart := false }
def FnBalancedSaid : Prop := fnBalancedRow.holds Try.pinned (OpenSpec.ofChange fnBalancedSpec)

/-- ITS FALSE NEIGHBOUR: 'it returns false'. Refute it at one input. -/
def fnBalancedWrong : ChangeSpec := { name := "fnBalanced", fn := fun _ => fun
  | [d] => { results := [.lit (.bool false)], args := [d] }
  | _ => none }
def FnBalancedWrongFalsely : Prop := fnBalancedRow.holds Try.pinned (OpenSpec.ofChange fnBalancedWrong)

/-- 'laws.FnFiguresEarliest': WHATEVER THE INPUT: true; the input reads as it did. -/
def fnFiguresEarliestSpec : ChangeSpec := { name := "fnFiguresEarliest", fn := fun _ => fun
  | [d] => { results := [.lit (.bool true)], args := [d] }
  | _ => none }
def fnFiguresEarliestRow : OpenClaim := { program := "ytkclecfjpabplaa", sum := "d7aa1c2332de4efc1adc031bdea8ca0a6a87961aba8d1a432a61e77b922c1fed", func := "loop.example/typesetting/laws.FnFiguresEarliest", spec := "fnFiguresEarliest", apart := false }
def FnFiguresEarliestSaid : Prop := fnFiguresEarliestRow.holds Try.pinned (OpenSpec.ofChange fnFiguresEarliestSpec)

/-- ITS FALSE NEIGHBOUR: 'it returns false'. Refute it at one input. -/
def fnFiguresEarliestWrong : ChangeSpec := { name := "fnFiguresEarliest", fn := fun _ => fun
  | [d] => { results := [.lit (.bool false)], args := [d] }
  | _ => none }
def FnFiguresEarliestWrongFalsely : Prop := fnFiguresEarliestRow.holds Try.pinned (OpenSpec.ofChange fnFiguresEarliestWrong)

/-- 'laws.FnTotalDelay': WHATEVER THE INPUT: true; the input reads as it did. -/
def fnTotalDelaySpec : ChangeSpec := { name := "fnTotalDelay", fn := fun _ => fun
  | [d] => { results := [.lit (.bool true)], args := [d] }
  | _ => none }
def fnTotalDelayRow : OpenClaim := { program := "ytkclecfjpabplaa", sum := "d7aa1c2332de4efc1adc031bdea8ca0a6a87961aba8d1a432a61e77b922c1fed", func := "loop.example/typesetting/laws.FnTotalDelay", spec := "fnTotalDelay", apart := false }
def FnTotalDelaySaid : Prop := fnTotalDelayRow.holds Try.pinned (OpenSpec.ofChange fnTotalDelaySpec)

/-- ITS FALSE NEIGHBOUR: 'it returns false'. Refute it at one input. -/
def fnTotalDelayWrong : ChangeSpec := { name := "fnTotalDelay", fn := fun _ => fun
  | [d] => { results := [.lit (.bool false)], args := [d] }
  | _ => none }
def FnTotalDelayWrongFalsely : Prop := fnTotalDelayRow.holds Try.pinned (OpenSpec.ofChange fnTotalDelayWrong)

/-- 'laws.FnExactBestPages': WHATEVER THE INPUT: true; the input reads as it did. -/
def fnExactBestPagesSpec : ChangeSpec := { name := "fnExactBestPages", fn := fun _ => fun
  | [d1, d2] => { results := [.lit (.bool true)], args := [d1, d2] }
  | _ => none }
def fnExactBestPagesRow : OpenClaim := { program := "ytkclecfjpabplaa", sum := "d7aa1c2332de4efc1adc031bdea8ca0a6a87961aba8d1a432a61e77b922c1fed", func := "loop.example/typesetting/laws.FnExactBestPages", spec := "fnExactBestPages", unfollowed := true, recurses := true, apart := false }
def FnExactBestPagesSaid : Prop := fnExactBestPagesRow.holds Try.pinned (OpenSpec.ofChange fnExactBestPagesSpec)

/-- ITS FALSE NEIGHBOUR: 'it returns false'. Refute it at one input. -/
def fnExactBestPagesWrong : ChangeSpec := { name := "fnExactBestPages", fn := fun _ => fun
  | [d1, d2] => { results := [.lit (.bool false)], args := [d1, d2] }
  | _ => none }
def FnExactBestPagesWrongFalsely : Prop := fnExactBestPagesRow.holds Try.pinned (OpenSpec.ofChange fnExactBestPagesWrong)

/-- 'laws.FnExactCheckPages': WHATEVER THE INPUT: true; the input reads as it did. -/
def fnExactCheckPagesSpec : ChangeSpec := { name := "fnExactCheckPages", fn := fun _ => fun
  | [d1, d2, d3] => { results := [.lit (.bool true)], args := [d1, d2, d3] }
  | _ => none }
def fnExactCheckPagesRow : OpenClaim := { program := "ytkclecfjpabplaa", sum := "d7aa1c2332de4efc1adc031bdea8ca0a6a87961aba8d1a432a61e77b922c1fed", func := "loop.example/typesetting/laws.FnExactCheckPages", spec := "fnExactCheckPages", unfollowed := true, recurses := true, apart := false }
def FnExactCheckPagesSaid : Prop := fnExactCheckPagesRow.holds Try.pinned (OpenSpec.ofChange fnExactCheckPagesSpec)

/-- ITS FALSE NEIGHBOUR: 'it returns false'. Refute it at one input. -/
def fnExactCheckPagesWrong : ChangeSpec := { name := "fnExactCheckPages", fn := fun _ => fun
  | [d1, d2, d3] => { results := [.lit (.bool false)], args := [d1, d2, d3] }
  | _ => none }
def FnExactCheckPagesWrongFalsely : Prop := fnExactCheckPagesRow.holds Try.pinned (OpenSpec.ofChange fnExactCheckPagesWrong)

/-- 'laws.FnBestPages': WHATEVER THE INPUT: true; the input reads as it did. -/
def fnBestPagesSpec : ChangeSpec := { name := "fnBestPages", fn := fun _ => fun
  | [d] => { results := [.lit (.bool true)], args := [d] }
  | _ => none }
def fnBestPagesRow : OpenClaim := { program := "ytkclecfjpabplaa", sum := "d7aa1c2332de4efc1adc031bdea8ca0a6a87961aba8d1a432a61e77b922c1fed", func := "loop.example/typesetting/laws.FnBestPages", spec := "fnBestPages", unfollowed := true, recurses := true, apart := false }
def FnBestPagesSaid : Prop := fnBestPagesRow.holds Try.pinned (OpenSpec.ofChange fnBestPagesSpec)

/-- ITS FALSE NEIGHBOUR: 'it returns false'. Refute it at one input. -/
def fnBestPagesWrong : ChangeSpec := { name := "fnBestPages", fn := fun _ => fun
  | [d] => { results := [.lit (.bool false)], args := [d] }
  | _ => none }
def FnBestPagesWrongFalsely : Prop := fnBestPagesRow.holds Try.pinned (OpenSpec.ofChange fnBestPagesWrong)

/-- 'laws.FnPagesOfAll': WHATEVER THE INPUT: true; the input reads as it did. -/
def fnPagesOfAllSpec : ChangeSpec := { name := "fnPagesOfAll", fn := fun _ => fun
  | [d] => { results := [.lit (.bool true)], args := [d] }
  | _ => none }
def fnPagesOfAllRow : OpenClaim := { program := "ytkclecfjpabplaa", sum := "d7aa1c2332de4efc1adc031bdea8ca0a6a87961aba8d1a432a61e77b922c1fed", func := "loop.example/typesetting/laws.FnPagesOfAll", spec := "fnPagesOfAll", unfollowed := true, recurses := true, apart := false }
def FnPagesOfAllSaid : Prop := fnPagesOfAllRow.holds Try.pinned (OpenSpec.ofChange fnPagesOfAllSpec)

/-- ITS FALSE NEIGHBOUR: 'it returns false'. Refute it at one input. -/
def fnPagesOfAllWrong : ChangeSpec := { name := "fnPagesOfAll", fn := fun _ => fun
  | [d] => { results := [.lit (.bool false)], args := [d] }
  | _ => none }
def FnPagesOfAllWrongFalsely : Prop := fnPagesOfAllRow.holds Try.pinned (OpenSpec.ofChange fnPagesOfAllWrong)

/-- 'laws.FnCheckPages': WHATEVER THE INPUT: true; the input reads as it did. -/
def fnCheckPagesSpec : ChangeSpec := { name := "fnCheckPages", fn := fun _ => fun
  | [d] => { results := [.lit (.bool true)], args := [d] }
  | _ => none }
def fnCheckPagesRow : OpenClaim := { program := "ytkclecfjpabplaa", sum := "d7aa1c2332de4efc1adc031bdea8ca0a6a87961aba8d1a432a61e77b922c1fed", func := "loop.example/typesetting/laws.FnCheckPages", spec := "fnCheckPages", unfollowed := true, recurses := true, apart := false }
def FnCheckPagesSaid : Prop := fnCheckPagesRow.holds Try.pinned (OpenSpec.ofChange fnCheckPagesSpec)

/-- ITS FALSE NEIGHBOUR: 'it returns false'. Refute it at one input. -/
def fnCheckPagesWrong : ChangeSpec := { name := "fnCheckPages", fn := fun _ => fun
  | [d] => { results := [.lit (.bool false)], args := [d] }
  | _ => none }
def FnCheckPagesWrongFalsely : Prop := fnCheckPagesRow.holds Try.pinned (OpenSpec.ofChange fnCheckPagesWrong)

/-- 'laws.FnFillPages': WHATEVER THE INPUT: true; the input reads as it did. -/
def fnFillPagesSpec : ChangeSpec := { name := "fnFillPages", fn := fun _ => fun
  | [d] => { results := [.lit (.bool true)], args := [d] }
  | _ => none }
def fnFillPagesRow : OpenClaim := { program := "ytkclecfjpabplaa", sum := "d7aa1c2332de4efc1adc031bdea8ca0a6a87961aba8d1a432a61e77b922c1fed", func := "loop.example/typesetting/laws.FnFillPages", spec := "fnFillPages", unfollowed := true, recurses := true, apart := false }
def FnFillPagesSaid : Prop := fnFillPagesRow.holds Try.pinned (OpenSpec.ofChange fnFillPagesSpec)

/-- ITS FALSE NEIGHBOUR: 'it returns false'. Refute it at one input. -/
def fnFillPagesWrong : ChangeSpec := { name := "fnFillPages", fn := fun _ => fun
  | [d] => { results := [.lit (.bool false)], args := [d] }
  | _ => none }
def FnFillPagesWrongFalsely : Prop := fnFillPagesRow.holds Try.pinned (OpenSpec.ofChange fnFillPagesWrong)

/-- 'laws.FnFillPossible': WHATEVER THE INPUT: true; the input reads as it did. -/
def fnFillPossibleSpec : ChangeSpec := { name := "fnFillPossible", fn := fun _ => fun
  | [d] => { results := [.lit (.bool true)], args := [d] }
  | _ => none }
def fnFillPossibleRow : OpenClaim := { program := "ytkclecfjpabplaa", sum := "d7aa1c2332de4efc1adc031bdea8ca0a6a87961aba8d1a432a61e77b922c1fed", func := "loop.example/typesetting/laws.FnFillPossible", spec := "fnFillPossible", unfollowed := true, recurses := true, apart := false }
def FnFillPossibleSaid : Prop := fnFillPossibleRow.holds Try.pinned (OpenSpec.ofChange fnFillPossibleSpec)

/-- ITS FALSE NEIGHBOUR: 'it returns false'. Refute it at one input. -/
def fnFillPossibleWrong : ChangeSpec := { name := "fnFillPossible", fn := fun _ => fun
  | [d] => { results := [.lit (.bool false)], args := [d] }
  | _ => none }
def FnFillPossibleWrongFalsely : Prop := fnFillPossibleRow.holds Try.pinned (OpenSpec.ofChange fnFillPossibleWrong)

/-- 'laws.FnPagesOne': WHATEVER THE INPUT: true; the input reads as it did. -/
def fnPagesOneSpec : ChangeSpec := { name := "fnPagesOne", fn := fun _ => fun
  | [d] => { results := [.lit (.bool true)], args := [d] }
  | _ => none }
def fnPagesOneRow : OpenClaim := { program := "ytkclecfjpabplaa", sum := "d7aa1c2332de4efc1adc031bdea8ca0a6a87961aba8d1a432a61e77b922c1fed", func := "loop.example/typesetting/laws.FnPagesOne", spec := "fnPagesOne", unfollowed := true, recurses := true, apart := false }
def FnPagesOneSaid : Prop := fnPagesOneRow.holds Try.pinned (OpenSpec.ofChange fnPagesOneSpec)

/-- ITS FALSE NEIGHBOUR: 'it returns false'. Refute it at one input. -/
def fnPagesOneWrong : ChangeSpec := { name := "fnPagesOne", fn := fun _ => fun
  | [d] => { results := [.lit (.bool false)], args := [d] }
  | _ => none }
def FnPagesOneWrongFalsely : Prop := fnPagesOneRow.holds Try.pinned (OpenSpec.ofChange fnPagesOneWrong)

/- THE SECOND FORM. 'bulk': how many values and letters a reading holds, each counted each time it is reached (what is shared counts as often as it is met; a slice's spare places count too). A statement '..UptoSaid' is the law's where the arguments, and the package variables that the reading takes, are together of bulk at most 1048576: NARROWER than '..Said'. Prove '..Said' where nothing that the law and all that it calls make is longer than what came in: it says more and counts as full. Else prove '..UptoSaid'. A law counts once. -/
mutual
def uptoBulk {H : Type} : DataW H → Nat
  | .lit (.string bytes) => bytes.length + 1
  | .lit _ => 1
  | .nil => 1
  | .ptr d => uptoBulk d + 1
  | .slice elems spare => uptoBulkAll elems + uptoBulkAll spare + 1
  | .agg parts => uptoBulkAll parts + 1
  | .iface _ d => uptoBulk d + 1
  | .map entries => uptoBulkEntries entries + 1
  | .held _ => 1
def uptoBulkAll {H : Type} : List (DataW H) → Nat
  | [] => 0
  | d :: r => uptoBulk d + uptoBulkAll r
def uptoBulkEntries {H : Type} : List (Lit × DataW H) → Nat
  | [] => 0
  | x :: r => uptoBulkEntry x + uptoBulkEntries r
def uptoBulkEntry {H : Type} : Lit × DataW H → Nat
  | (.string bytes, d) => bytes.length + uptoBulk d + 1
  | (_, d) => uptoBulk d + 1
 end
def uptoSmall : (H : Type) → List (DataW H) → Bool := fun _ ds => decide (uptoBulkAll ds ≤ 1048576)
def OpenSpec.upto (s : _root_.Go.ChangeSpec) : _root_.Go.OpenSpec := { _root_.Go.OpenSpec.ofChange s with cond := some uptoSmall }

/-- 'laws.FnExactCheckColumns', WHERE WHAT IT READS IS OF BULK AT MOST 1048576: true; the input reads as it did. -/
def fnExactCheckColumnsUptoRow : OpenClaim := { program := "ytkclecfjpabplaa", sum := "d7aa1c2332de4efc1adc031bdea8ca0a6a87961aba8d1a432a61e77b922c1fed", func := "loop.example/typesetting/laws.FnExactCheckColumns", spec := "fnExactCheckColumns", unfollowed := true, recurses := true, apart := false, narrowed := true }
def FnExactCheckColumnsUptoSaid : Prop := fnExactCheckColumnsUptoRow.holds Try.pinned (OpenSpec.upto fnExactCheckColumnsSpec)

/-- 'laws.FnCheckColumns', WHERE WHAT IT READS IS OF BULK AT MOST 1048576: true; the input reads as it did. -/
def fnCheckColumnsUptoRow : OpenClaim := { program := "ytkclecfjpabplaa", sum := "d7aa1c2332de4efc1adc031bdea8ca0a6a87961aba8d1a432a61e77b922c1fed", func := "loop.example/typesetting/laws.FnCheckColumns", spec := "fnCheckColumns", unfollowed := true, recurses := true, apart := false, narrowed := true }
def FnCheckColumnsUptoSaid : Prop := fnCheckColumnsUptoRow.holds Try.pinned (OpenSpec.upto fnCheckColumnsSpec)

/-- 'laws.FnBalanceColumns', WHERE WHAT IT READS IS OF BULK AT MOST 1048576: true; the input reads as it did. -/
def fnBalanceColumnsUptoRow : OpenClaim := { program := "ytkclecfjpabplaa", sum := "d7aa1c2332de4efc1adc031bdea8ca0a6a87961aba8d1a432a61e77b922c1fed", func := "loop.example/typesetting/laws.FnBalanceColumns", spec := "fnBalanceColumns", unfollowed := true, recurses := true, apart := false, narrowed := true }
def FnBalanceColumnsUptoSaid : Prop := fnBalanceColumnsUptoRow.holds Try.pinned (OpenSpec.upto fnBalanceColumnsSpec)

/-- 'laws.FnBalanced', WHERE WHAT IT READS IS OF BULK AT MOST 1048576: true; the input reads as it did. -/
def fnBalancedUptoRow : OpenClaim := { program := "ytkclecfjpabplaa", sum := "d7aa1c2332de4efc1adc031bdea8ca0a6a87961aba8d1a432a61e77b922c1fed", func := "loop.example/typesetting/laws.FnBalanced", spec := "fnBalanced", unfollowed := true, recurses := true, apart := false, narrowed := true }
def FnBalancedUptoSaid : Prop := fnBalancedUptoRow.holds Try.pinned (OpenSpec.upto fnBalancedSpec)

/-- 'laws.FnFiguresEarliest', WHERE WHAT IT READS IS OF BULK AT MOST 1048576: true; the input reads as it did. -/
def fnFiguresEarliestUptoRow : OpenClaim := { program := "ytkclecfjpabplaa", sum := "d7aa1c2332de4efc1adc031bdea8ca0a6a87961aba8d1a432a61e77b922c1fed", func := "loop.example/typesetting/laws.FnFiguresEarliest", spec := "fnFiguresEarliest", apart := false, narrowed := true }
def FnFiguresEarliestUptoSaid : Prop := fnFiguresEarliestUptoRow.holds Try.pinned (OpenSpec.upto fnFiguresEarliestSpec)

/-- 'laws.FnTotalDelay', WHERE WHAT IT READS IS OF BULK AT MOST 1048576: true; the input reads as it did. -/
def fnTotalDelayUptoRow : OpenClaim := { program := "ytkclecfjpabplaa", sum := "d7aa1c2332de4efc1adc031bdea8ca0a6a87961aba8d1a432a61e77b922c1fed", func := "loop.example/typesetting/laws.FnTotalDelay", spec := "fnTotalDelay", apart := false, narrowed := true }
def FnTotalDelayUptoSaid : Prop := fnTotalDelayUptoRow.holds Try.pinned (OpenSpec.upto fnTotalDelaySpec)

/-- 'laws.FnExactBestPages', WHERE WHAT IT READS IS OF BULK AT MOST 1048576: true; the input reads as it did. -/
def fnExactBestPagesUptoRow : OpenClaim := { program := "ytkclecfjpabplaa", sum := "d7aa1c2332de4efc1adc031bdea8ca0a6a87961aba8d1a432a61e77b922c1fed", func := "loop.example/typesetting/laws.FnExactBestPages", spec := "fnExactBestPages", unfollowed := true, recurses := true, apart := false, narrowed := true }
def FnExactBestPagesUptoSaid : Prop := fnExactBestPagesUptoRow.holds Try.pinned (OpenSpec.upto fnExactBestPagesSpec)

/-- 'laws.FnExactCheckPages', WHERE WHAT IT READS IS OF BULK AT MOST 1048576: true; the input reads as it did. -/
def fnExactCheckPagesUptoRow : OpenClaim := { program := "ytkclecfjpabplaa", sum := "d7aa1c2332de4efc1adc031bdea8ca0a6a87961aba8d1a432a61e77b922c1fed", func := "loop.example/typesetting/laws.FnExactCheckPages", spec := "fnExactCheckPages", unfollowed := true, recurses := true, apart := false, narrowed := true }
def FnExactCheckPagesUptoSaid : Prop := fnExactCheckPagesUptoRow.holds Try.pinned (OpenSpec.upto fnExactCheckPagesSpec)

/-- 'laws.FnBestPages', WHERE WHAT IT READS IS OF BULK AT MOST 1048576: true; the input reads as it did. -/
def fnBestPagesUptoRow : OpenClaim := { program := "ytkclecfjpabplaa", sum := "d7aa1c2332de4efc1adc031bdea8ca0a6a87961aba8d1a432a61e77b922c1fed", func := "loop.example/typesetting/laws.FnBestPages", spec := "fnBestPages", unfollowed := true, recurses := true, apart := false, narrowed := true }
def FnBestPagesUptoSaid : Prop := fnBestPagesUptoRow.holds Try.pinned (OpenSpec.upto fnBestPagesSpec)

/-- 'laws.FnPagesOfAll', WHERE WHAT IT READS IS OF BULK AT MOST 1048576: true; the input reads as it did. -/
def fnPagesOfAllUptoRow : OpenClaim := { program := "ytkclecfjpabplaa", sum := "d7aa1c2332de4efc1adc031bdea8ca0a6a87961aba8d1a432a61e77b922c1fed", func := "loop.example/typesetting/laws.FnPagesOfAll", spec := "fnPagesOfAll", unfollowed := true, recurses := true, apart := false, narrowed := true }
def FnPagesOfAllUptoSaid : Prop := fnPagesOfAllUptoRow.holds Try.pinned (OpenSpec.upto fnPagesOfAllSpec)

/-- 'laws.FnCheckPages', WHERE WHAT IT READS IS OF BULK AT MOST 1048576: true; the input reads as it did. -/
def fnCheckPagesUptoRow : OpenClaim := { program := "ytkclecfjpabplaa", sum := "d7aa1c2332de4efc1adc031bdea8ca0a6a87961aba8d1a432a61e77b922c1fed", func := "loop.example/typesetting/laws.FnCheckPages", spec := "fnCheckPages", unfollowed := true, recurses := true, apart := false, narrowed := true }
def FnCheckPagesUptoSaid : Prop := fnCheckPagesUptoRow.holds Try.pinned (OpenSpec.upto fnCheckPagesSpec)

/-- 'laws.FnFillPages', WHERE WHAT IT READS IS OF BULK AT MOST 1048576: true; the input reads as it did. -/
def fnFillPagesUptoRow : OpenClaim := { program := "ytkclecfjpabplaa", sum := "d7aa1c2332de4efc1adc031bdea8ca0a6a87961aba8d1a432a61e77b922c1fed", func := "loop.example/typesetting/laws.FnFillPages", spec := "fnFillPages", unfollowed := true, recurses := true, apart := false, narrowed := true }
def FnFillPagesUptoSaid : Prop := fnFillPagesUptoRow.holds Try.pinned (OpenSpec.upto fnFillPagesSpec)

/-- 'laws.FnFillPossible', WHERE WHAT IT READS IS OF BULK AT MOST 1048576: true; the input reads as it did. -/
def fnFillPossibleUptoRow : OpenClaim := { program := "ytkclecfjpabplaa", sum := "d7aa1c2332de4efc1adc031bdea8ca0a6a87961aba8d1a432a61e77b922c1fed", func := "loop.example/typesetting/laws.FnFillPossible", spec := "fnFillPossible", unfollowed := true, recurses := true, apart := false, narrowed := true }
def FnFillPossibleUptoSaid : Prop := fnFillPossibleUptoRow.holds Try.pinned (OpenSpec.upto fnFillPossibleSpec)

/-- 'laws.FnPagesOne', WHERE WHAT IT READS IS OF BULK AT MOST 1048576: true; the input reads as it did. -/
def fnPagesOneUptoRow : OpenClaim := { program := "ytkclecfjpabplaa", sum := "d7aa1c2332de4efc1adc031bdea8ca0a6a87961aba8d1a432a61e77b922c1fed", func := "loop.example/typesetting/laws.FnPagesOne", spec := "fnPagesOne", unfollowed := true, recurses := true, apart := false, narrowed := true }
def FnPagesOneUptoSaid : Prop := fnPagesOneUptoRow.holds Try.pinned (OpenSpec.upto fnPagesOneSpec)

end Rows
end Go.Proofs.Ytkclecfjpabplaa
