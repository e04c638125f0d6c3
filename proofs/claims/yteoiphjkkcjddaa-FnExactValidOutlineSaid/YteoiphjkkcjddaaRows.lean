/-
  No cell of these rows narrows 'for every input' (looked for: loops, veiled, ifaces, maps, wideKeys, modest, calm, conditions, laid).
  DERIVED. THE GIVEN ROWS OF THIS SEAT. 14 by the template 'for every input the law returns true; each argument reads behind the call as it read before'; 0 by the template 'total and deterministic' (their statements: YteoiphjkkcjddaaTotals.lean).
  GIVEN WITH THE SEED: the statements are not yours to turn. If you find one false, say at which input.
  Laid BY PROGRAM, IN A SANDBOX (cutbox-rows.mjs): the forced cells as the released guide's own fill.sh prints them over the translation 2c9070e4eaa82d79… (all of the seat's roots in one cut). By AI agents, Wed Nov 11 2026. No macro, syntax, notation, axiom, sorry.
-/
import Derived.Test.YteoiphjkkcjddaaChecked
import GoSem.Claim
import GoSem.ClaimJoined
import GoSem.ClaimMapViews
import Derived.JoinedTies
import Derived.KernelRfl
namespace Go.Proofs.Yteoiphjkkcjddaa
/- THE CELL 'sum', in the pinned program and in every row, IS THE sha256 OF THE DUMP (.gsa) THAT YteoiphjkkcjddaaProg.lean LOADS. Nothing in Lean hashes anything: it is a label: what it is worth is what the hold of that sum in a sandbox is worth. -/
noncomputable def Try.pinned : Pinned := { name := "yteoiphjkkcjddaa", sum := "2c9070e4eaa82d79b9ab4e5c7b1ebe3d74fabd7bb1a2e31fe072157be155951e", checked := Try.checked }
namespace Rows
def none {H : Type} : Left H := { results := [], args := [] }

/-- 'laws.FnExactLevelsOf': WHATEVER THE INPUT: true; the input reads as it did. -/
def fnExactLevelsOfSpec : ChangeSpec := { name := "fnExactLevelsOf", fn := fun _ => fun
  | [d1, d2] => { results := [.lit (.bool true)], args := [d1, d2] }
  | _ => none }
def fnExactLevelsOfRow : OpenClaim := { program := "yteoiphjkkcjddaa", sum := "2c9070e4eaa82d79b9ab4e5c7b1ebe3d74fabd7bb1a2e31fe072157be155951e", func := "loop.example/typesetting/laws.FnExactLevelsOf", spec := "fnExactLevelsOf", apart := false }
def FnExactLevelsOfSaid : Prop := fnExactLevelsOfRow.holds Try.pinned (OpenSpec.ofChange fnExactLevelsOfSpec)

/-- ITS FALSE NEIGHBOUR: 'it returns false'. Refute it at one input. -/
def fnExactLevelsOfWrong : ChangeSpec := { name := "fnExactLevelsOf", fn := fun _ => fun
  | [d1, d2] => { results := [.lit (.bool false)], args := [d1, d2] }
  | _ => none }
def FnExactLevelsOfWrongFalsely : Prop := fnExactLevelsOfRow.holds Try.pinned (OpenSpec.ofChange fnExactLevelsOfWrong)

/-- 'laws.FnExactOrderOf': WHATEVER THE INPUT: true; the input reads as it did. -/
def fnExactOrderOfSpec : ChangeSpec := { name := "fnExactOrderOf", fn := fun _ => fun
  | [d] => { results := [.lit (.bool true)], args := [d] }
  | _ => none }
def fnExactOrderOfRow : OpenClaim := { program := "yteoiphjkkcjddaa", sum := "2c9070e4eaa82d79b9ab4e5c7b1ebe3d74fabd7bb1a2e31fe072157be155951e", func := "loop.example/typesetting/laws.FnExactOrderOf", spec := "fnExactOrderOf", apart := false }
def FnExactOrderOfSaid : Prop := fnExactOrderOfRow.holds Try.pinned (OpenSpec.ofChange fnExactOrderOfSpec)

/-- ITS FALSE NEIGHBOUR: 'it returns false'. Refute it at one input. -/
def fnExactOrderOfWrong : ChangeSpec := { name := "fnExactOrderOf", fn := fun _ => fun
  | [d] => { results := [.lit (.bool false)], args := [d] }
  | _ => none }
def FnExactOrderOfWrongFalsely : Prop := fnExactOrderOfRow.holds Try.pinned (OpenSpec.ofChange fnExactOrderOfWrong)

/-- 'laws.FnExactShowText': WHATEVER THE INPUT: true; the input reads as it did. -/
def fnExactShowTextSpec : ChangeSpec := { name := "fnExactShowText", fn := fun _ => fun
  | [d1, d2] => { results := [.lit (.bool true)], args := [d1, d2] }
  | _ => none }
def fnExactShowTextRow : OpenClaim := { program := "yteoiphjkkcjddaa", sum := "2c9070e4eaa82d79b9ab4e5c7b1ebe3d74fabd7bb1a2e31fe072157be155951e", func := "loop.example/typesetting/laws.FnExactShowText", spec := "fnExactShowText", apart := false }
def FnExactShowTextSaid : Prop := fnExactShowTextRow.holds Try.pinned (OpenSpec.ofChange fnExactShowTextSpec)

/-- ITS FALSE NEIGHBOUR: 'it returns false'. Refute it at one input. -/
def fnExactShowTextWrong : ChangeSpec := { name := "fnExactShowText", fn := fun _ => fun
  | [d1, d2] => { results := [.lit (.bool false)], args := [d1, d2] }
  | _ => none }
def FnExactShowTextWrongFalsely : Prop := fnExactShowTextRow.holds Try.pinned (OpenSpec.ofChange fnExactShowTextWrong)

/-- 'laws.FnExactInverseOrder': WHATEVER THE INPUT: true; the input reads as it did. -/
def fnExactInverseOrderSpec : ChangeSpec := { name := "fnExactInverseOrder", fn := fun _ => fun
  | [d] => { results := [.lit (.bool true)], args := [d] }
  | _ => none }
def fnExactInverseOrderRow : OpenClaim := { program := "yteoiphjkkcjddaa", sum := "2c9070e4eaa82d79b9ab4e5c7b1ebe3d74fabd7bb1a2e31fe072157be155951e", func := "loop.example/typesetting/laws.FnExactInverseOrder", spec := "fnExactInverseOrder", apart := false }
def FnExactInverseOrderSaid : Prop := fnExactInverseOrderRow.holds Try.pinned (OpenSpec.ofChange fnExactInverseOrderSpec)

/-- ITS FALSE NEIGHBOUR: 'it returns false'. Refute it at one input. -/
def fnExactInverseOrderWrong : ChangeSpec := { name := "fnExactInverseOrder", fn := fun _ => fun
  | [d] => { results := [.lit (.bool false)], args := [d] }
  | _ => none }
def FnExactInverseOrderWrongFalsely : Prop := fnExactInverseOrderRow.holds Try.pinned (OpenSpec.ofChange fnExactInverseOrderWrong)

/-- 'laws.FnExactValidOutline': WHATEVER THE INPUT: true; the input reads as it did. -/
def fnExactValidOutlineSpec : ChangeSpec := { name := "fnExactValidOutline", fn := fun _ => fun
  | [d] => { results := [.lit (.bool true)], args := [d] }
  | _ => none }
def fnExactValidOutlineRow : OpenClaim := { program := "yteoiphjkkcjddaa", sum := "2c9070e4eaa82d79b9ab4e5c7b1ebe3d74fabd7bb1a2e31fe072157be155951e", func := "loop.example/typesetting/laws.FnExactValidOutline", spec := "fnExactValidOutline", apart := false }
def FnExactValidOutlineSaid : Prop := fnExactValidOutlineRow.holds Try.pinned (OpenSpec.ofChange fnExactValidOutlineSpec)

/-- ITS FALSE NEIGHBOUR: 'it returns false'. Refute it at one input. -/
def fnExactValidOutlineWrong : ChangeSpec := { name := "fnExactValidOutline", fn := fun _ => fun
  | [d] => { results := [.lit (.bool false)], args := [d] }
  | _ => none }
def FnExactValidOutlineWrongFalsely : Prop := fnExactValidOutlineRow.holds Try.pinned (OpenSpec.ofChange fnExactValidOutlineWrong)

/-- 'laws.FnLevelsOf': WHATEVER THE INPUT: true; the input reads as it did. -/
def fnLevelsOfSpec : ChangeSpec := { name := "fnLevelsOf", fn := fun _ => fun
  | [d] => { results := [.lit (.bool true)], args := [d] }
  | _ => none }
def fnLevelsOfRow : OpenClaim := { program := "yteoiphjkkcjddaa", sum := "2c9070e4eaa82d79b9ab4e5c7b1ebe3d74fabd7bb1a2e31fe072157be155951e", func := "loop.example/typesetting/laws.FnLevelsOf", spec := "fnLevelsOf", apart := false }
def FnLevelsOfSaid : Prop := fnLevelsOfRow.holds Try.pinned (OpenSpec.ofChange fnLevelsOfSpec)

/-- ITS FALSE NEIGHBOUR: 'it returns false'. Refute it at one input. -/
def fnLevelsOfWrong : ChangeSpec := { name := "fnLevelsOf", fn := fun _ => fun
  | [d] => { results := [.lit (.bool false)], args := [d] }
  | _ => none }
def FnLevelsOfWrongFalsely : Prop := fnLevelsOfRow.holds Try.pinned (OpenSpec.ofChange fnLevelsOfWrong)

/-- 'laws.FnLevelsDigits': WHATEVER THE INPUT: true; the input reads as it did. -/
def fnLevelsDigitsSpec : ChangeSpec := { name := "fnLevelsDigits", fn := fun _ => fun
  | [d] => { results := [.lit (.bool true)], args := [d] }
  | _ => none }
def fnLevelsDigitsRow : OpenClaim := { program := "yteoiphjkkcjddaa", sum := "2c9070e4eaa82d79b9ab4e5c7b1ebe3d74fabd7bb1a2e31fe072157be155951e", func := "loop.example/typesetting/laws.FnLevelsDigits", spec := "fnLevelsDigits", apart := false }
def FnLevelsDigitsSaid : Prop := fnLevelsDigitsRow.holds Try.pinned (OpenSpec.ofChange fnLevelsDigitsSpec)

/-- ITS FALSE NEIGHBOUR: 'it returns false'. Refute it at one input. -/
def fnLevelsDigitsWrong : ChangeSpec := { name := "fnLevelsDigits", fn := fun _ => fun
  | [d] => { results := [.lit (.bool false)], args := [d] }
  | _ => none }
def FnLevelsDigitsWrongFalsely : Prop := fnLevelsDigitsRow.holds Try.pinned (OpenSpec.ofChange fnLevelsDigitsWrong)

/-- 'laws.FnLevelsBase': WHATEVER THE INPUT: true; the input reads as it did. -/
def fnLevelsBaseSpec : ChangeSpec := { name := "fnLevelsBase", fn := fun _ => fun
  | [d] => { results := [.lit (.bool true)], args := [d] }
  | _ => none }
def fnLevelsBaseRow : OpenClaim := { program := "yteoiphjkkcjddaa", sum := "2c9070e4eaa82d79b9ab4e5c7b1ebe3d74fabd7bb1a2e31fe072157be155951e", func := "loop.example/typesetting/laws.FnLevelsBase", spec := "fnLevelsBase", apart := false }
def FnLevelsBaseSaid : Prop := fnLevelsBaseRow.holds Try.pinned (OpenSpec.ofChange fnLevelsBaseSpec)

/-- ITS FALSE NEIGHBOUR: 'it returns false'. Refute it at one input. -/
def fnLevelsBaseWrong : ChangeSpec := { name := "fnLevelsBase", fn := fun _ => fun
  | [d] => { results := [.lit (.bool false)], args := [d] }
  | _ => none }
def FnLevelsBaseWrongFalsely : Prop := fnLevelsBaseRow.holds Try.pinned (OpenSpec.ofChange fnLevelsBaseWrong)

/-- 'laws.FnOrderOf': WHATEVER THE INPUT: true; the input reads as it did. -/
def fnOrderOfSpec : ChangeSpec := { name := "fnOrderOf", fn := fun _ => fun
  | [d] => { results := [.lit (.bool true)], args := [d] }
  | _ => none }
def fnOrderOfRow : OpenClaim := { program := "yteoiphjkkcjddaa", sum := "2c9070e4eaa82d79b9ab4e5c7b1ebe3d74fabd7bb1a2e31fe072157be155951e", func := "loop.example/typesetting/laws.FnOrderOf", spec := "fnOrderOf", apart := false }
def FnOrderOfSaid : Prop := fnOrderOfRow.holds Try.pinned (OpenSpec.ofChange fnOrderOfSpec)

/-- ITS FALSE NEIGHBOUR: 'it returns false'. Refute it at one input. -/
def fnOrderOfWrong : ChangeSpec := { name := "fnOrderOf", fn := fun _ => fun
  | [d] => { results := [.lit (.bool false)], args := [d] }
  | _ => none }
def FnOrderOfWrongFalsely : Prop := fnOrderOfRow.holds Try.pinned (OpenSpec.ofChange fnOrderOfWrong)

/-- 'laws.FnOrderPlain': WHATEVER THE INPUT: true; the input reads as it did. -/
def fnOrderPlainSpec : ChangeSpec := { name := "fnOrderPlain", fn := fun _ => fun
  | [d] => { results := [.lit (.bool true)], args := [d] }
  | _ => none }
def fnOrderPlainRow : OpenClaim := { program := "yteoiphjkkcjddaa", sum := "2c9070e4eaa82d79b9ab4e5c7b1ebe3d74fabd7bb1a2e31fe072157be155951e", func := "loop.example/typesetting/laws.FnOrderPlain", spec := "fnOrderPlain", apart := false }
def FnOrderPlainSaid : Prop := fnOrderPlainRow.holds Try.pinned (OpenSpec.ofChange fnOrderPlainSpec)

/-- ITS FALSE NEIGHBOUR: 'it returns false'. Refute it at one input. -/
def fnOrderPlainWrong : ChangeSpec := { name := "fnOrderPlain", fn := fun _ => fun
  | [d] => { results := [.lit (.bool false)], args := [d] }
  | _ => none }
def FnOrderPlainWrongFalsely : Prop := fnOrderPlainRow.holds Try.pinned (OpenSpec.ofChange fnOrderPlainWrong)

/-- 'laws.FnOrderTwice': WHATEVER THE INPUT: true; the input reads as it did. -/
def fnOrderTwiceSpec : ChangeSpec := { name := "fnOrderTwice", fn := fun _ => fun
  | [d] => { results := [.lit (.bool true)], args := [d] }
  | _ => none }
def fnOrderTwiceRow : OpenClaim := { program := "yteoiphjkkcjddaa", sum := "2c9070e4eaa82d79b9ab4e5c7b1ebe3d74fabd7bb1a2e31fe072157be155951e", func := "loop.example/typesetting/laws.FnOrderTwice", spec := "fnOrderTwice", apart := false }
def FnOrderTwiceSaid : Prop := fnOrderTwiceRow.holds Try.pinned (OpenSpec.ofChange fnOrderTwiceSpec)

/-- ITS FALSE NEIGHBOUR: 'it returns false'. Refute it at one input. -/
def fnOrderTwiceWrong : ChangeSpec := { name := "fnOrderTwice", fn := fun _ => fun
  | [d] => { results := [.lit (.bool false)], args := [d] }
  | _ => none }
def FnOrderTwiceWrongFalsely : Prop := fnOrderTwiceRow.holds Try.pinned (OpenSpec.ofChange fnOrderTwiceWrong)

/-- 'laws.FnShowText': WHATEVER THE INPUT: true; the input reads as it did. -/
def fnShowTextSpec : ChangeSpec := { name := "fnShowText", fn := fun _ => fun
  | [d] => { results := [.lit (.bool true)], args := [d] }
  | _ => none }
def fnShowTextRow : OpenClaim := { program := "yteoiphjkkcjddaa", sum := "2c9070e4eaa82d79b9ab4e5c7b1ebe3d74fabd7bb1a2e31fe072157be155951e", func := "loop.example/typesetting/laws.FnShowText", spec := "fnShowText", apart := false }
def FnShowTextSaid : Prop := fnShowTextRow.holds Try.pinned (OpenSpec.ofChange fnShowTextSpec)

/-- ITS FALSE NEIGHBOUR: 'it returns false'. Refute it at one input. -/
def fnShowTextWrong : ChangeSpec := { name := "fnShowText", fn := fun _ => fun
  | [d] => { results := [.lit (.bool false)], args := [d] }
  | _ => none }
def FnShowTextWrongFalsely : Prop := fnShowTextRow.holds Try.pinned (OpenSpec.ofChange fnShowTextWrong)

/-- 'laws.FnShowPlain': WHATEVER THE INPUT: true; the input reads as it did. -/
def fnShowPlainSpec : ChangeSpec := { name := "fnShowPlain", fn := fun _ => fun
  | [d] => { results := [.lit (.bool true)], args := [d] }
  | _ => none }
def fnShowPlainRow : OpenClaim := { program := "yteoiphjkkcjddaa", sum := "2c9070e4eaa82d79b9ab4e5c7b1ebe3d74fabd7bb1a2e31fe072157be155951e", func := "loop.example/typesetting/laws.FnShowPlain", spec := "fnShowPlain", apart := false }
def FnShowPlainSaid : Prop := fnShowPlainRow.holds Try.pinned (OpenSpec.ofChange fnShowPlainSpec)

/-- ITS FALSE NEIGHBOUR: 'it returns false'. Refute it at one input. -/
def fnShowPlainWrong : ChangeSpec := { name := "fnShowPlain", fn := fun _ => fun
  | [d] => { results := [.lit (.bool false)], args := [d] }
  | _ => none }
def FnShowPlainWrongFalsely : Prop := fnShowPlainRow.holds Try.pinned (OpenSpec.ofChange fnShowPlainWrong)

/-- 'laws.FnInverseOrder': WHATEVER THE INPUT: true; the input reads as it did. -/
def fnInverseOrderSpec : ChangeSpec := { name := "fnInverseOrder", fn := fun _ => fun
  | [d] => { results := [.lit (.bool true)], args := [d] }
  | _ => none }
def fnInverseOrderRow : OpenClaim := { program := "yteoiphjkkcjddaa", sum := "2c9070e4eaa82d79b9ab4e5c7b1ebe3d74fabd7bb1a2e31fe072157be155951e", func := "loop.example/typesetting/laws.FnInverseOrder", spec := "fnInverseOrder", apart := false }
def FnInverseOrderSaid : Prop := fnInverseOrderRow.holds Try.pinned (OpenSpec.ofChange fnInverseOrderSpec)

/-- ITS FALSE NEIGHBOUR: 'it returns false'. Refute it at one input. -/
def fnInverseOrderWrong : ChangeSpec := { name := "fnInverseOrder", fn := fun _ => fun
  | [d] => { results := [.lit (.bool false)], args := [d] }
  | _ => none }
def FnInverseOrderWrongFalsely : Prop := fnInverseOrderRow.holds Try.pinned (OpenSpec.ofChange fnInverseOrderWrong)

/- THE SECOND FORM. 'bulk': how many values and letters a reading holds, each counted each time it is reached (what is shared counts as often as it is met; a slice's spare places count too). A statement '..UptoSaid' is the law's where the arguments, and the package variables that the reading takes, are together of bulk at most 1048576: NARROWER than '..Said'. Prove '..Said' where nothing that the law and all that it calls make is longer than what came in: it says more and counts as full. Else prove '..UptoSaid'. A law counts once. -/
mutual
def uptoBulk {H : Type} : DataW H → Nat
  | .lit (.string bytes) => bytes.length + 1
  | .lit _ => 1
  | .nil => 1
  | .ptr d => uptoBulk d + 1
  | .slice elems spare => uptoBulkAll elems + uptoBulkAll spare + 1
  | .agg parts => uptoBulkAll parts + 1
  | .iface _ d => uptoBulk d + 1
  | .map entries => uptoBulkEntries entries + 1
  | .held _ => 1
def uptoBulkAll {H : Type} : List (DataW H) → Nat
  | [] => 0
  | d :: r => uptoBulk d + uptoBulkAll r
def uptoBulkEntries {H : Type} : List (Lit × DataW H) → Nat
  | [] => 0
  | x :: r => uptoBulkEntry x + uptoBulkEntries r
def uptoBulkEntry {H : Type} : Lit × DataW H → Nat
  | (.string bytes, d) => bytes.length + uptoBulk d + 1
  | (_, d) => uptoBulk d + 1
 end
def uptoSmall : (H : Type) → List (DataW H) → Bool := fun _ ds => decide (uptoBulkAll ds ≤ 1048576)
def OpenSpec.upto (s : _root_.Go.ChangeSpec) : _root_.Go.OpenSpec := { _root_.Go.OpenSpec.ofChange s with cond := some uptoSmall }

/-- 'laws.FnExactLevelsOf', WHERE WHAT IT READS IS OF BULK AT MOST 1048576: true; the input reads as it did. -/
def fnExactLevelsOfUptoRow : OpenClaim := { program := "yteoiphjkkcjddaa", sum := "2c9070e4eaa82d79b9ab4e5c7b1ebe3d74fabd7bb1a2e31fe072157be155951e", func := "loop.example/typesetting/laws.FnExactLevelsOf", spec := "fnExactLevelsOf", apart := false, narrowed := true }
def FnExactLevelsOfUptoSaid : Prop := fnExactLevelsOfUptoRow.holds Try.pinned (OpenSpec.upto fnExactLevelsOfSpec)

/-- 'laws.FnExactOrderOf', WHERE WHAT IT READS IS OF BULK AT MOST 1048576: true; the input reads as it did. -/
def fnExactOrderOfUptoRow : OpenClaim := { program := "yteoiphjkkcjddaa", sum := "2c9070e4eaa82d79b9ab4e5c7b1ebe3d74fabd7bb1a2e31fe072157be155951e", func := "loop.example/typesetting/laws.FnExactOrderOf", spec := "fnExactOrderOf", apart := false, narrowed := true }
def FnExactOrderOfUptoSaid : Prop := fnExactOrderOfUptoRow.holds Try.pinned (OpenSpec.upto fnExactOrderOfSpec)

/-- 'laws.FnExactShowText', WHERE WHAT IT READS IS OF BULK AT MOST 1048576: true; the input reads as it did. -/
def fnExactShowTextUptoRow : OpenClaim := { program := "yteoiphjkkcjddaa", sum := "2c9070e4eaa82d79b9ab4e5c7b1ebe3d74fabd7bb1a2e31fe072157be155951e", func := "loop.example/typesetting/laws.FnExactShowText", spec := "fnExactShowText", apart := false, narrowed := true }
def FnExactShowTextUptoSaid : Prop := fnExactShowTextUptoRow.holds Try.pinned (OpenSpec.upto fnExactShowTextSpec)

/-- 'laws.FnExactInverseOrder', WHERE WHAT IT READS IS OF BULK AT MOST 1048576: true; the input reads as it did. -/
def fnExactInverseOrderUptoRow : OpenClaim := { program := "yteoiphjkkcjddaa", sum := "2c9070e4eaa82d79b9ab4e5c7b1ebe3d74fabd7bb1a2e31fe072157be155951e", func := "loop.example/typesetting/laws.FnExactInverseOrder", spec := "fnExactInverseOrder", apart := false, narrowed := true }
def FnExactInverseOrderUptoSaid : Prop := fnExactInverseOrderUptoRow.holds Try.pinned (OpenSpec.upto fnExactInverseOrderSpec)

/-- 'laws.FnExactValidOutline', WHERE WHAT IT READS IS OF BULK AT MOST 1048576: true; the input reads as it did. -/
def fnExactValidOutlineUptoRow : OpenClaim := { program := "yteoiphjkkcjddaa", sum := "2c9070e4eaa82d79b9ab4e5c7b1ebe3d74fabd7bb1a2e31fe072157be155951e", func := "loop.example/typesetting/laws.FnExactValidOutline", spec := "fnExactValidOutline", apart := false, narrowed := true }
def FnExactValidOutlineUptoSaid : Prop := fnExactValidOutlineUptoRow.holds Try.pinned (OpenSpec.upto fnExactValidOutlineSpec)

/-- 'laws.FnLevelsOf', WHERE WHAT IT READS IS OF BULK AT MOST 1048576: true; the input reads as it did. -/
def fnLevelsOfUptoRow : OpenClaim := { program := "yteoiphjkkcjddaa", sum := "2c9070e4eaa82d79b9ab4e5c7b1ebe3d74fabd7bb1a2e31fe072157be155951e", func := "loop.example/typesetting/laws.FnLevelsOf", spec := "fnLevelsOf", apart := false, narrowed := true }
def FnLevelsOfUptoSaid : Prop := fnLevelsOfUptoRow.holds Try.pinned (OpenSpec.upto fnLevelsOfSpec)

/-- 'laws.FnLevelsDigits', WHERE WHAT IT READS IS OF BULK AT MOST 1048576: true; the input reads as it did. -/
def fnLevelsDigitsUptoRow : OpenClaim := { program := "yteoiphjkkcjddaa", sum := "2c9070e4eaa82d79b9ab4e5c7b1ebe3d74fabd7bb1a2e31fe072157be155951e", func := "loop.example/typesetting/laws.FnLevelsDigits", spec := "fnLevelsDigits", apart := false, narrowed := true }
def FnLevelsDigitsUptoSaid : Prop := fnLevelsDigitsUptoRow.holds Try.pinned (OpenSpec.upto fnLevelsDigitsSpec)

/-- 'laws.FnLevelsBase', WHERE WHAT IT READS IS OF BULK AT MOST 1048576: true; the input reads as it did. -/
def fnLevelsBaseUptoRow : OpenClaim := { program := "yteoiphjkkcjddaa", sum := "2c9070e4eaa82d79b9ab4e5c7b1ebe3d74fabd7bb1a2e31fe072157be155951e", func := "loop.example/typesetting/laws.FnLevelsBase", spec := "fnLevelsBase", apart := false, narrowed := true }
def FnLevelsBaseUptoSaid : Prop := fnLevelsBaseUptoRow.holds Try.pinned (OpenSpec.upto fnLevelsBaseSpec)

/-- 'laws.FnOrderOf', WHERE WHAT IT READS IS OF BULK AT MOST 1048576: true; the input reads as it did. -/
def fnOrderOfUptoRow : OpenClaim := { program := "yteoiphjkkcjddaa", sum := "2c9070e4eaa82d79b9ab4e5c7b1ebe3d74fabd7bb1a2e31fe072157be155951e", func := "loop.example/typesetting/laws.FnOrderOf", spec := "fnOrderOf", apart := false, narrowed := true }
def FnOrderOfUptoSaid : Prop := fnOrderOfUptoRow.holds Try.pinned (OpenSpec.upto fnOrderOfSpec)

/-- 'laws.FnOrderPlain', WHERE WHAT IT READS IS OF BULK AT MOST 1048576: true; the input reads as it did. -/
def fnOrderPlainUptoRow : OpenClaim := { program := "yteoiphjkkcjddaa", sum := "2c9070e4eaa82d79b9ab4e5c7b1ebe3d74fabd7bb1a2e31fe072157be155951e", func := "loop.example/typesetting/laws.FnOrderPlain", spec := "fnOrderPlain", apart := false, narrowed := true }
def FnOrderPlainUptoSaid : Prop := fnOrderPlainUptoRow.holds Try.pinned (OpenSpec.upto fnOrderPlainSpec)

/-- 'laws.FnOrderTwice', WHERE WHAT IT READS IS OF BULK AT MOST 1048576: true; the input reads as it did. -/
def fnOrderTwiceUptoRow : OpenClaim := { program := "yteoiphjkkcjddaa", sum := "2c9070e4eaa82d79b9ab4e5c7b1ebe3d74fabd7bb1a2e31fe072157be155951e", func := "loop.example/typesetting/laws.FnOrderTwice", spec := "fnOrderTwice", apart := false, narrowed := true }
def FnOrderTwiceUptoSaid : Prop := fnOrderTwiceUptoRow.holds Try.pinned (OpenSpec.upto fnOrderTwiceSpec)

/-- 'laws.FnShowText', WHERE WHAT IT READS IS OF BULK AT MOST 1048576: true; the input reads as it did. -/
def fnShowTextUptoRow : OpenClaim := { program := "yteoiphjkkcjddaa", sum := "2c9070e4eaa82d79b9ab4e5c7b1ebe3d74fabd7bb1a2e31fe072157be155951e", func := "loop.example/typesetting/laws.FnShowText", spec := "fnShowText", apart := false, narrowed := true }
def FnShowTextUptoSaid : Prop := fnShowTextUptoRow.holds Try.pinned (OpenSpec.upto fnShowTextSpec)

/-- 'laws.FnShowPlain', WHERE WHAT IT READS IS OF BULK AT MOST 1048576: true; the input reads as it did. -/
def fnShowPlainUptoRow : OpenClaim := { program := "yteoiphjkkcjddaa", sum := "2c9070e4eaa82d79b9ab4e5c7b1ebe3d74fabd7bb1a2e31fe072157be155951e", func := "loop.example/typesetting/laws.FnShowPlain", spec := "fnShowPlain", apart := false, narrowed := true }
def FnShowPlainUptoSaid : Prop := fnShowPlainUptoRow.holds Try.pinned (OpenSpec.upto fnShowPlainSpec)

/-- 'laws.FnInverseOrder', WHERE WHAT IT READS IS OF BULK AT MOST 1048576: true; the input reads as it did. -/
def fnInverseOrderUptoRow : OpenClaim := { program := "yteoiphjkkcjddaa", sum := "2c9070e4eaa82d79b9ab4e5c7b1ebe3d74fabd7bb1a2e31fe072157be155951e", func := "loop.example/typesetting/laws.FnInverseOrder", spec := "fnInverseOrder", apart := false, narrowed := true }
def FnInverseOrderUptoSaid : Prop := fnInverseOrderUptoRow.holds Try.pinned (OpenSpec.upto fnInverseOrderSpec)

end Rows
end Go.Proofs.Yteoiphjkkcjddaa
