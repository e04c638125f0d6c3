/-
  No cell of these rows narrows 'for every input' (looked for: loops, veiled, ifaces, maps, wideKeys, modest, calm, conditions, laid).
  DERIVED. THE GIVEN ROWS OF THIS SEAT. 12 by the template 'for every input the law returns true; each argument reads behind the call as it read before'; 0 by the template 'total and deterministic' (their statements: YtofcbhphjghkaabTotals.lean).
  GIVEN WITH THE SEED: the statements are not yours to turn. If you find one false, say at which input.
  Laid BY PROGRAM, IN A SANDBOX (cutbox-rows.mjs): the forced cells as the released guide's own fill.sh prints them over the translation 207cfc2aec3ff359… (all of the seat's roots in one cut). By AI agents, Wed Nov 11 2026. No macro, syntax, notation, axiom, sorry.
-/
import Derived.Test.YtofcbhphjghkaabChecked
import GoSem.Claim
import GoSem.ClaimJoined
import GoSem.ClaimMapViews
import Derived.JoinedTies
import Derived.KernelRfl
namespace Go.Proofs.Ytofcbhphjghkaab
/- THE CELL 'sum', in the pinned program and in every row, IS THE sha256 OF THE DUMP (.gsa) THAT YtofcbhphjghkaabProg.lean LOADS. Nothing in Lean hashes anything: it is a label: what it is worth is what the hold of that sum in a sandbox is worth. -/
noncomputable def Try.pinned : Pinned := { name := "ytofcbhphjghkaab", sum := "207cfc2aec3ff3592b871be488bc077938e1334bf8ca64bcc022c59549074627", checked := Try.checked }
namespace Rows
def none {H : Type} : Left H := { results := [], args := [] }

/-- 'laws.FnExactColumnsNeeded': WHATEVER THE INPUT: true; the input reads as it did. -/
def fnExactColumnsNeededSpec : ChangeSpec := { name := "fnExactColumnsNeeded", fn := fun _ => fun
  | [d1, d2] => { results := [.lit (.bool true)], args := [d1, d2] }
  | _ => none }
def fnExactColumnsNeededRow : OpenClaim := { program := "ytofcbhphjghkaab", sum := "207cfc2aec3ff3592b871be488bc077938e1334bf8ca64bcc022c59549074627", func := "loop.example/typesetting/laws.FnExactColumnsNeeded", spec := "fnExactColumnsNeeded", unfollowed := true, recurses := true, apart := false }
def FnExactColumnsNeededSaid : Prop := fnExactColumnsNeededRow.holds Try.pinned (OpenSpec.ofChange fnExactColumnsNeededSpec)

/-- ITS FALSE NEIGHBOUR: 'it returns false'. Refute it at one input. -/
def fnExactColumnsNeededWrong : ChangeSpec := { name := "fnExactColumnsNeeded", fn := fun _ => fun
  | [d1, d2] => { results := [.lit (.bool false)], args := [d1, d2] }
  | _ => none }
def FnExactColumnsNeededWrongFalsely : Prop := fnExactColumnsNeededRow.holds Try.pinned (OpenSpec.ofChange fnExactColumnsNeededWrong)

/-- 'laws.FnColumnsNeeded': WHATEVER THE INPUT: true; the input reads as it did. -/
def fnColumnsNeededSpec : ChangeSpec := { name := "fnColumnsNeeded", fn := fun _ => fun
  | [d1, d2] => { results := [.lit (.bool true)], args := [d1, d2] }
  | _ => none }
def fnColumnsNeededRow : OpenClaim := { program := "ytofcbhphjghkaab", sum := "207cfc2aec3ff3592b871be488bc077938e1334bf8ca64bcc022c59549074627", func := "loop.example/typesetting/laws.FnColumnsNeeded", spec := "fnColumnsNeeded", unfollowed := true, recurses := true, apart := false }
def FnColumnsNeededSaid : Prop := fnColumnsNeededRow.holds Try.pinned (OpenSpec.ofChange fnColumnsNeededSpec)

/-- ITS FALSE NEIGHBOUR: 'it returns false'. Refute it at one input. -/
def fnColumnsNeededWrong : ChangeSpec := { name := "fnColumnsNeeded", fn := fun _ => fun
  | [d1, d2] => { results := [.lit (.bool false)], args := [d1, d2] }
  | _ => none }
def FnColumnsNeededWrongFalsely : Prop := fnColumnsNeededRow.holds Try.pinned (OpenSpec.ofChange fnColumnsNeededWrong)

/-- 'laws.FnExactCheckColumns': WHATEVER THE INPUT: true; the input reads as it did. -/
def fnExactCheckColumnsSpec : ChangeSpec := { name := "fnExactCheckColumns", fn := fun _ => fun
  | [d1, d2] => { results := [.lit (.bool true)], args := [d1, d2] }
  | _ => none }
def fnExactCheckColumnsRow : OpenClaim := { program := "ytofcbhphjghkaab", sum := "207cfc2aec3ff3592b871be488bc077938e1334bf8ca64bcc022c59549074627", func := "loop.example/typesetting/laws.FnExactCheckColumns", spec := "fnExactCheckColumns", unfollowed := true, recurses := true, apart := false }
def FnExactCheckColumnsSaid : Prop := fnExactCheckColumnsRow.holds Try.pinned (OpenSpec.ofChange fnExactCheckColumnsSpec)

/-- ITS FALSE NEIGHBOUR: 'it returns false'. Refute it at one input. -/
def fnExactCheckColumnsWrong : ChangeSpec := { name := "fnExactCheckColumns", fn := fun _ => fun
  | [d1, d2] => { results := [.lit (.bool false)], args := [d1, d2] }
  | _ => none }
def FnExactCheckColumnsWrongFalsely : Prop := fnExactCheckColumnsRow.holds Try.pinned (OpenSpec.ofChange fnExactCheckColumnsWrong)

/-- 'laws.FnCheckColumns': WHATEVER THE INPUT: true; the input reads as it did. -/
def fnCheckColumnsSpec : ChangeSpec := { name := "fnCheckColumns", fn := fun _ => fun
  | [d] => { results := [.lit (.bool true)], args := [d] }
  | _ => none }
def fnCheckColumnsRow : OpenClaim := { program := "ytofcbhphjghkaab", sum := "207cfc2aec3ff3592b871be488bc077938e1334bf8ca64bcc022c59549074627", func := "loop.example/typesetting/laws.FnCheckColumns", spec := "fnCheckColumns", unfollowed := true, recurses := true, apart := false }
def FnCheckColumnsSaid : Prop := fnCheckColumnsRow.holds Try.pinned (OpenSpec.ofChange fnCheckColumnsSpec)

/-- ITS FALSE NEIGHBOUR: 'it returns false'. Refute it at one input. -/
def fnCheckColumnsWrong : ChangeSpec := { name := "fnCheckColumns", fn := fun _ => fun
  | [d] => { results := [.lit (.bool false)], args := [d] }
  | _ => none }
def FnCheckColumnsWrongFalsely : Prop := fnCheckColumnsRow.holds Try.pinned (OpenSpec.ofChange fnCheckColumnsWrong)

/-- 'laws.FnExactBalancedHeight': WHATEVER THE INPUT: true; the input reads as it did. -/
def fnExactBalancedHeightSpec : ChangeSpec := { name := "fnExactBalancedHeight", fn := fun _ => fun
  | [d1, d2] => { results := [.lit (.bool true)], args := [d1, d2] }
  | _ => none }
def fnExactBalancedHeightRow : OpenClaim := { program := "ytofcbhphjghkaab", sum := "207cfc2aec3ff3592b871be488bc077938e1334bf8ca64bcc022c59549074627", func := "loop.example/typesetting/laws.FnExactBalancedHeight", spec := "fnExactBalancedHeight", unfollowed := true, recurses := true, apart := false }
def FnExactBalancedHeightSaid : Prop := fnExactBalancedHeightRow.holds Try.pinned (OpenSpec.ofChange fnExactBalancedHeightSpec)

/-- ITS FALSE NEIGHBOUR: 'it returns false'. Refute it at one input. -/
def fnExactBalancedHeightWrong : ChangeSpec := { name := "fnExactBalancedHeight", fn := fun _ => fun
  | [d1, d2] => { results := [.lit (.bool false)], args := [d1, d2] }
  | _ => none }
def FnExactBalancedHeightWrongFalsely : Prop := fnExactBalancedHeightRow.holds Try.pinned (OpenSpec.ofChange fnExactBalancedHeightWrong)

/-- 'laws.FnBalancedHeight': WHATEVER THE INPUT: true; the input reads as it did. -/
def fnBalancedHeightSpec : ChangeSpec := { name := "fnBalancedHeight", fn := fun _ => fun
  | [d] => { results := [.lit (.bool true)], args := [d] }
  | _ => none }
def fnBalancedHeightRow : OpenClaim := { program := "ytofcbhphjghkaab", sum := "207cfc2aec3ff3592b871be488bc077938e1334bf8ca64bcc022c59549074627", func := "loop.example/typesetting/laws.FnBalancedHeight", spec := "fnBalancedHeight", unfollowed := true, recurses := true, apart := false }
def FnBalancedHeightSaid : Prop := fnBalancedHeightRow.holds Try.pinned (OpenSpec.ofChange fnBalancedHeightSpec)

/-- ITS FALSE NEIGHBOUR: 'it returns false'. Refute it at one input. -/
def fnBalancedHeightWrong : ChangeSpec := { name := "fnBalancedHeight", fn := fun _ => fun
  | [d] => { results := [.lit (.bool false)], args := [d] }
  | _ => none }
def FnBalancedHeightWrongFalsely : Prop := fnBalancedHeightRow.holds Try.pinned (OpenSpec.ofChange fnBalancedHeightWrong)

/-- 'laws.FnExactBalanceColumns': WHATEVER THE INPUT: true; the input reads as it did. -/
def fnExactBalanceColumnsSpec : ChangeSpec := { name := "fnExactBalanceColumns", fn := fun _ => fun
  | [d1, d2] => { results := [.lit (.bool true)], args := [d1, d2] }
  | _ => none }
def fnExactBalanceColumnsRow : OpenClaim := { program := "ytofcbhphjghkaab", sum := "207cfc2aec3ff3592b871be488bc077938e1334bf8ca64bcc022c59549074627", func := "loop.example/typesetting/laws.FnExactBalanceColumns", spec := "fnExactBalanceColumns", unfollowed := true, recurses := true, apart := false }
def FnExactBalanceColumnsSaid : Prop := fnExactBalanceColumnsRow.holds Try.pinned (OpenSpec.ofChange fnExactBalanceColumnsSpec)

/-- ITS FALSE NEIGHBOUR: 'it returns false'. Refute it at one input. -/
def fnExactBalanceColumnsWrong : ChangeSpec := { name := "fnExactBalanceColumns", fn := fun _ => fun
  | [d1, d2] => { results := [.lit (.bool false)], args := [d1, d2] }
  | _ => none }
def FnExactBalanceColumnsWrongFalsely : Prop := fnExactBalanceColumnsRow.holds Try.pinned (OpenSpec.ofChange fnExactBalanceColumnsWrong)

/-- 'laws.FnBalanceColumns': WHATEVER THE INPUT: true; the input reads as it did. -/
def fnBalanceColumnsSpec : ChangeSpec := { name := "fnBalanceColumns", fn := fun _ => fun
  | [d] => { results := [.lit (.bool true)], args := [d] }
  | _ => none }
def fnBalanceColumnsRow : OpenClaim := { program := "ytofcbhphjghkaab", sum := "207cfc2aec3ff3592b871be488bc077938e1334bf8ca64bcc022c59549074627", func := "loop.example/typesetting/laws.FnBalanceColumns", spec := "fnBalanceColumns", unfollowed := true, recurses := true, apart := false }
def FnBalanceColumnsSaid : Prop := fnBalanceColumnsRow.holds Try.pinned (OpenSpec.ofChange fnBalanceColumnsSpec)

/-- ITS FALSE NEIGHBOUR: 'it returns false'. Refute it at one input. -/
def fnBalanceColumnsWrong : ChangeSpec := { name := "fnBalanceColumns", fn := fun _ => fun
  | [d] => { results := [.lit (.bool false)], args := [d] }
  | _ => none }
def FnBalanceColumnsWrongFalsely : Prop := fnBalanceColumnsRow.holds Try.pinned (OpenSpec.ofChange fnBalanceColumnsWrong)

/-- 'laws.FnBalanced': WHATEVER THE INPUT: true; the input reads as it did. -/
def fnBalancedSpec : ChangeSpec := { name := "fnBalanced", fn := fun _ => fun
  | [d] => { results := [.lit (.bool true)], args := [d] }
  | _ => none }
def fnBalancedRow : OpenClaim := { program := "ytofcbhphjghkaab", sum := "207cfc2aec3ff3592b871be488bc077938e1334bf8ca64bcc022c59549074627", func := "loop.example/typesetting/laws.FnBalanced", spec := "fnBalanced", unfollowed := true, recurses := true, apart := false }
def FnBalancedSaid : Prop := fnBalancedRow.holds Try.pinned (OpenSpec.ofChange fnBalancedSpec)

/-- ITS FALSE NEIGHBOUR: 'it returns false'. Refute it at one input. -/
def fnBalancedWrong : ChangeSpec := { name := "fnBalanced", fn := fun _ => fun
  | [d] => { results := [.lit (.bool false)], args := [d] }
  | _ => none }
def FnBalancedWrongFalsely : Prop := fnBalancedRow.holds Try.pinned (OpenSpec.ofChange fnBalancedWrong)

/-- 'laws.FnBalanceOne': WHATEVER THE INPUT: true; the input reads as it did. -/
def fnBalanceOneSpec : ChangeSpec := { name := "fnBalanceOne", fn := fun _ => fun
  | [d] => { results := [.lit (.bool true)], args := [d] }
  | _ => none }
def fnBalanceOneRow : OpenClaim := { program := "ytofcbhphjghkaab", sum := "207cfc2aec3ff3592b871be488bc077938e1334bf8ca64bcc022c59549074627", func := "loop.example/typesetting/laws.FnBalanceOne", spec := "fnBalanceOne", unfollowed := true, recurses := true, apart := false }
def FnBalanceOneSaid : Prop := fnBalanceOneRow.holds Try.pinned (OpenSpec.ofChange fnBalanceOneSpec)

/-- ITS FALSE NEIGHBOUR: 'it returns false'. Refute it at one input. -/
def fnBalanceOneWrong : ChangeSpec := { name := "fnBalanceOne", fn := fun _ => fun
  | [d] => { results := [.lit (.bool false)], args := [d] }
  | _ => none }
def FnBalanceOneWrongFalsely : Prop := fnBalanceOneRow.holds Try.pinned (OpenSpec.ofChange fnBalanceOneWrong)

/-- 'laws.FnExactCountWidows': WHATEVER THE INPUT: true; the input reads as it did. -/
def fnExactCountWidowsSpec : ChangeSpec := { name := "fnExactCountWidows", fn := fun _ => fun
  | [d1, d2] => { results := [.lit (.bool true)], args := [d1, d2] }
  | _ => none }
def fnExactCountWidowsRow : OpenClaim := { program := "ytofcbhphjghkaab", sum := "207cfc2aec3ff3592b871be488bc077938e1334bf8ca64bcc022c59549074627", func := "loop.example/typesetting/laws.FnExactCountWidows", spec := "fnExactCountWidows", unfollowed := true, recurses := true, apart := false }
def FnExactCountWidowsSaid : Prop := fnExactCountWidowsRow.holds Try.pinned (OpenSpec.ofChange fnExactCountWidowsSpec)

/-- ITS FALSE NEIGHBOUR: 'it returns false'. Refute it at one input. -/
def fnExactCountWidowsWrong : ChangeSpec := { name := "fnExactCountWidows", fn := fun _ => fun
  | [d1, d2] => { results := [.lit (.bool false)], args := [d1, d2] }
  | _ => none }
def FnExactCountWidowsWrongFalsely : Prop := fnExactCountWidowsRow.holds Try.pinned (OpenSpec.ofChange fnExactCountWidowsWrong)

/-- 'laws.FnCountWidows': WHATEVER THE INPUT: true; the input reads as it did. -/
def fnCountWidowsSpec : ChangeSpec := { name := "fnCountWidows", fn := fun _ => fun
  | [d] => { results := [.lit (.bool true)], args := [d] }
  | _ => none }
def fnCountWidowsRow : OpenClaim := { program := "ytofcbhphjghkaab", sum := "207cfc2aec3ff3592b871be488bc077938e1334bf8ca64bcc022c59549074627", func := "loop.example/typesetting/laws.FnCountWidows", spec := "fnCountWidows", unfollowed := true, recurses := true, apart := false }
def FnCountWidowsSaid : Prop := fnCountWidowsRow.holds Try.pinned (OpenSpec.ofChange fnCountWidowsSpec)

/-- ITS FALSE NEIGHBOUR: 'it returns false'. Refute it at one input. -/
def fnCountWidowsWrong : ChangeSpec := { name := "fnCountWidows", fn := fun _ => fun
  | [d] => { results := [.lit (.bool false)], args := [d] }
  | _ => none }
def FnCountWidowsWrongFalsely : Prop := fnCountWidowsRow.holds Try.pinned (OpenSpec.ofChange fnCountWidowsWrong)

/- THE SECOND FORM. 'bulk': how many values and letters a reading holds, each counted each time it is reached (what is shared counts as often as it is met; a slice's spare places count too). A statement '..UptoSaid' is the law's where the arguments, and the package variables that the reading takes, are together of bulk at most 1048576: NARROWER than '..Said'. Prove '..Said' where nothing that the law and all that it calls make is longer than what came in: it says more and counts as full. Else prove '..UptoSaid'. A law counts once. -/
mutual
def uptoBulk {H : Type} : DataW H → Nat
  | .lit (.string bytes) => bytes.length + 1
  | .lit _ => 1
  | .nil => 1
  | .ptr d => uptoBulk d + 1
  | .slice elems spare => uptoBulkAll elems + uptoBulkAll spare + 1
  | .agg parts => uptoBulkAll parts + 1
  | .iface _ d => uptoBulk d + 1
  | .map entries => uptoBulkEntries entries + 1
  | .held _ => 1
def uptoBulkAll {H : Type} : List (DataW H) → Nat
  | [] => 0
  | d :: r => uptoBulk d + uptoBulkAll r
def uptoBulkEntries {H : Type} : List (Lit × DataW H) → Nat
  | [] => 0
  | x :: r => uptoBulkEntry x + uptoBulkEntries r
def uptoBulkEntry {H : Type} : Lit × DataW H → Nat
  | (.string bytes, d) => bytes.length + uptoBulk d + 1
  | (_, d) => uptoBulk d + 1
 end
def uptoSmall : (H : Type) → List (DataW H) → Bool := fun _ ds => decide (uptoBulkAll ds ≤ 1048576)
def OpenSpec.upto (s : _root_.Go.ChangeSpec) : _root_.Go.OpenSpec := { _root_.Go.OpenSpec.ofChange s with cond := some uptoSmall }

/-- 'laws.FnExactColumnsNeeded', WHERE WHAT IT READS IS OF BULK AT MOST 1048576: true; the input reads as it did. -/
def fnExactColumnsNeededUptoRow : OpenClaim := { program := "ytofcbhphjghkaab", sum := "207cfc2aec3ff3592b871be488bc077938e1334bf8ca64bcc022c59549074627", func := "loop.example/typesetting/laws.FnExactColumnsNeeded", spec := "fnExactColumnsNeeded", unfollowed := true, recurses := true, apart := false, narrowed := true }
def FnExactColumnsNeededUptoSaid : Prop := fnExactColumnsNeededUptoRow.holds Try.pinned (OpenSpec.upto fnExactColumnsNeededSpec)

/-- 'laws.FnColumnsNeeded', WHERE WHAT IT READS IS OF BULK AT MOST 1048576: true; the input reads as it did. -/
def fnColumnsNeededUptoRow : OpenClaim := { program := "ytofcbhphjghkaab", sum := "207cfc2aec3ff3592b871be488bc077938e1334bf8ca64bcc022c59549074627", func := "loop.example/typesetting/laws.FnColumnsNeeded", spec := "fnColumnsNeeded", unfollowed := true, recurses := true, apart := false, narrowed := true }
def FnColumnsNeededUptoSaid : Prop := fnColumnsNeededUptoRow.holds Try.pinned (OpenSpec.upto fnColumnsNeededSpec)

/-- 'laws.FnExactCheckColumns', WHERE WHAT IT READS IS OF BULK AT MOST 1048576: true; the input reads as it did. -/
def fnExactCheckColumnsUptoRow : OpenClaim := { program := "ytofcbhphjghkaab", sum := "207cfc2aec3ff3592b871be488bc077938e1334bf8ca64bcc022c59549074627", func := "loop.example/typesetting/laws.FnExactCheckColumns", spec := "fnExactCheckColumns", unfollowed := true, recurses := true, apart := false, narrowed := true }
def FnExactCheckColumnsUptoSaid : Prop := fnExactCheckColumnsUptoRow.holds Try.pinned (OpenSpec.upto fnExactCheckColumnsSpec)

/-- 'laws.FnCheckColumns', WHERE WHAT IT READS IS OF BULK AT MOST 1048576: true; the input reads as it did. -/
def fnCheckColumnsUptoRow : OpenClaim := { program := "ytofcbhphjghkaab", sum := "207cfc2aec3ff3592b871be488bc077938e1334bf8ca64bcc022c59549074627", func := "loop.example/typesetting/laws.FnCheckColumns", spec := "fnCheckColumns", unfollowed := true, recurses := true, apart := false, narrowed := true }
def FnCheckColumnsUptoSaid : Prop := fnCheckColumnsUptoRow.holds Try.pinned (OpenSpec.upto fnCheckColumnsSpec)

/-- 'laws.FnExactBalancedHeight', WHERE WHAT IT READS IS OF BULK AT MOST 1048576: true; the input reads as it did. -/
def fnExactBalancedHeightUptoRow : OpenClaim := { program := "ytofcbhphjghkaab", sum := "207cfc2aec3ff3592b871be488bc077938e1334bf8ca64bcc022c59549074627", func := "loop.example/typesetting/laws.FnExactBalancedHeight", spec := "fnExactBalancedHeight", unfollowed := true, recurses := true, apart := false, narrowed := true }
def FnExactBalancedHeightUptoSaid : Prop := fnExactBalancedHeightUptoRow.holds Try.pinned (OpenSpec.upto fnExactBalancedHeightSpec)

/-- 'laws.FnBalancedHeight', WHERE WHAT IT READS IS OF BULK AT MOST 1048576: true; the input reads as it did. -/
def fnBalancedHeightUptoRow : OpenClaim := { program := "ytofcbhphjghkaab", sum := "207cfc2aec3ff3592b871be488bc077938e1334bf8ca64bcc022c59549074627", func := "loop.example/typesetting/laws.FnBalancedHeight", spec := "fnBalancedHeight", unfollowed := true, recurses := true, apart := false, narrowed := true }
def FnBalancedHeightUptoSaid : Prop := fnBalancedHeightUptoRow.holds Try.pinned (OpenSpec.upto fnBalancedHeightSpec)

/-- 'laws.FnExactBalanceColumns', WHERE WHAT IT READS IS OF BULK AT MOST 1048576: true; the input reads as it did. -/
def fnExactBalanceColumnsUptoRow : OpenClaim := { program := "ytofcbhphjghkaab", sum := "207cfc2aec3ff3592b871be488bc077938e1334bf8ca64bcc022c59549074627", func := "loop.example/typesetting/laws.FnExactBalanceColumns", spec := "fnExactBalanceColumns", unfollowed := true, recurses := true, apart := false, narrowed := true }
def FnExactBalanceColumnsUptoSaid : Prop := fnExactBalanceColumnsUptoRow.holds Try.pinned (OpenSpec.upto fnExactBalanceColumnsSpec)

/-- 'laws.FnBalanceColumns', WHERE WHAT IT READS IS OF BULK AT MOST 1048576: true; the input reads as it did. -/
def fnBalanceColumnsUptoRow : OpenClaim := { program := "ytofcbhphjghkaab", sum := "207cfc2aec3ff3592b871be488bc077938e1334bf8ca64bcc022c59549074627", func := "loop.example/typesetting/laws.FnBalanceColumns", spec := "fnBalanceColumns", unfollowed := true, recurses := true, apart := false, narrowed := true }
def FnBalanceColumnsUptoSaid : Prop := fnBalanceColumnsUptoRow.holds Try.pinned (OpenSpec.upto fnBalanceColumnsSpec)

/-- 'laws.FnBalanced', WHERE WHAT IT READS IS OF BULK AT MOST 1048576: true; the input reads as it did. -/
def fnBalancedUptoRow : OpenClaim := { program := "ytofcbhphjghkaab", sum := "207cfc2aec3ff3592b871be488bc077938e1334bf8ca64bcc022c59549074627", func := "loop.example/typesetting/laws.FnBalanced", spec := "fnBalanced", unfollowed := true, recurses := true, apart := false, narrowed := true }
def FnBalancedUptoSaid : Prop := fnBalancedUptoRow.holds Try.pinned (OpenSpec.upto fnBalancedSpec)

/-- 'laws.FnBalanceOne', WHERE WHAT IT READS IS OF BULK AT MOST 1048576: true; the input reads as it did. -/
def fnBalanceOneUptoRow : OpenClaim := { program := "ytofcbhphjghkaab", sum := "207cfc2aec3ff3592b871be488bc077938e1334bf8ca64bcc022c59549074627", func := "loop.example/typesetting/laws.FnBalanceOne", spec := "fnBalanceOne", unfollowed := true, recurses := true, apart := false, narrowed := true }
def FnBalanceOneUptoSaid : Prop := fnBalanceOneUptoRow.holds Try.pinned (OpenSpec.upto fnBalanceOneSpec)

/-- 'laws.FnExactCountWidows', WHERE WHAT IT READS IS OF BULK AT MOST 1048576: true; the input reads as it did. -/
def fnExactCountWidowsUptoRow : OpenClaim := { program := "ytofcbhphjghkaab", sum := "207cfc2aec3ff3592b871be488bc077938e1334bf8ca64bcc022c59549074627", func := "loop.example/typesetting/laws.FnExactCountWidows", spec := "fnExactCountWidows", unfollowed := true, recurses := true, apart := false, narrowed := true }
def FnExactCountWidowsUptoSaid : Prop := fnExactCountWidowsUptoRow.holds Try.pinned (OpenSpec.upto fnExactCountWidowsSpec)

/-- 'laws.FnCountWidows', WHERE WHAT IT READS IS OF BULK AT MOST 1048576: true; the input reads as it did. -/
def fnCountWidowsUptoRow : OpenClaim := { program := "ytofcbhphjghkaab", sum := "207cfc2aec3ff3592b871be488bc077938e1334bf8ca64bcc022c59549074627", func := "loop.example/typesetting/laws.FnCountWidows", spec := "fnCountWidows", unfollowed := true, recurses := true, apart := false, narrowed := true }
def FnCountWidowsUptoSaid : Prop := fnCountWidowsUptoRow.holds Try.pinned (OpenSpec.upto fnCountWidowsSpec)

end Rows
end Go.Proofs.Ytofcbhphjghkaab
