/-
  No cell of these rows narrows 'for every input' (looked for: loops, veiled, ifaces, maps, wideKeys, modest, calm, conditions, laid).
  DERIVED. THE GIVEN ROWS OF THIS SEAT. 12 by the template 'for every input the law returns true; each argument reads behind the call as it read before'; 0 by the template 'total and deterministic' (their statements: YtbbicijmekinkaaTotals.lean).
  GIVEN WITH THE SEED: the statements are not yours to turn. If you find one false, say at which input.
  Laid BY PROGRAM, IN A SANDBOX (cutbox-rows.mjs): the forced cells as the released guide's own fill.sh prints them over the translation d62904552ce58036… (all of the seat's roots in one cut). By AI agents, Wed Nov 11 2026. No macro, syntax, notation, axiom, sorry.
-/
import Derived.Test.YtbbicijmekinkaaChecked
import GoSem.Claim
import GoSem.ClaimJoined
import GoSem.ClaimMapViews
import Derived.JoinedTies
import Derived.KernelRfl
namespace Go.Proofs.Ytbbicijmekinkaa
/- THE CELL 'sum', in the pinned program and in every row, IS THE sha256 OF THE DUMP (.gsa) THAT YtbbicijmekinkaaProg.lean LOADS. Nothing in Lean hashes anything: it is a label: what it is worth is what the hold of that sum in a sandbox is worth. -/
noncomputable def Try.pinned : Pinned := { name := "ytbbicijmekinkaa", sum := "d62904552ce58036609ad242d77421f14d009876eaea9518b2fee0ce13affb8d", checked := Try.checked }
namespace Rows
def none {H : Type} : Left H := { results := [], args := [] }

/-- 'laws.FnExactValidBox': WHATEVER THE INPUT: true; the input reads as it did. -/
def fnExactValidBoxSpec : ChangeSpec := { name := "fnExactValidBox", fn := fun _ => fun
  | [d] => { results := [.lit (.bool true)], args := [d] }
  | _ => none }
def fnExactValidBoxRow : OpenClaim := { program := "ytbbicijmekinkaa", sum := "d62904552ce58036609ad242d77421f14d009876eaea9518b2fee0ce13affb8d", func := "loop.example/typesetting/laws.FnExactValidBox", spec := "fnExactValidBox", apart := false }
def FnExactValidBoxSaid : Prop := fnExactValidBoxRow.holds Try.pinned (OpenSpec.ofChange fnExactValidBoxSpec)

/-- ITS FALSE NEIGHBOUR: 'it returns false'. Refute it at one input. -/
def fnExactValidBoxWrong : ChangeSpec := { name := "fnExactValidBox", fn := fun _ => fun
  | [d] => { results := [.lit (.bool false)], args := [d] }
  | _ => none }
def FnExactValidBoxWrongFalsely : Prop := fnExactValidBoxRow.holds Try.pinned (OpenSpec.ofChange fnExactValidBoxWrong)

/-- 'laws.FnExactInterline': WHATEVER THE INPUT: true; the input reads as it did. -/
def fnExactInterlineSpec : ChangeSpec := { name := "fnExactInterline", fn := fun _ => fun
  | [d1, d2, d3] => { results := [.lit (.bool true)], args := [d1, d2, d3] }
  | _ => none }
def fnExactInterlineRow : OpenClaim := { program := "ytbbicijmekinkaa", sum := "d62904552ce58036609ad242d77421f14d009876eaea9518b2fee0ce13affb8d", func := "loop.example/typesetting/laws.FnExactInterline", spec := "fnExactInterline", apart := false }
def FnExactInterlineSaid : Prop := fnExactInterlineRow.holds Try.pinned (OpenSpec.ofChange fnExactInterlineSpec)

/-- ITS FALSE NEIGHBOUR: 'it returns false'. Refute it at one input. -/
def fnExactInterlineWrong : ChangeSpec := { name := "fnExactInterline", fn := fun _ => fun
  | [d1, d2, d3] => { results := [.lit (.bool false)], args := [d1, d2, d3] }
  | _ => none }
def FnExactInterlineWrongFalsely : Prop := fnExactInterlineRow.holds Try.pinned (OpenSpec.ofChange fnExactInterlineWrong)

/-- 'laws.FnExactRaiseBox': WHATEVER THE INPUT: true; the input reads as it did. -/
def fnExactRaiseBoxSpec : ChangeSpec := { name := "fnExactRaiseBox", fn := fun _ => fun
  | [d1, d2] => { results := [.lit (.bool true)], args := [d1, d2] }
  | _ => none }
def fnExactRaiseBoxRow : OpenClaim := { program := "ytbbicijmekinkaa", sum := "d62904552ce58036609ad242d77421f14d009876eaea9518b2fee0ce13affb8d", func := "loop.example/typesetting/laws.FnExactRaiseBox", spec := "fnExactRaiseBox", apart := false }
def FnExactRaiseBoxSaid : Prop := fnExactRaiseBoxRow.holds Try.pinned (OpenSpec.ofChange fnExactRaiseBoxSpec)

/-- ITS FALSE NEIGHBOUR: 'it returns false'. Refute it at one input. -/
def fnExactRaiseBoxWrong : ChangeSpec := { name := "fnExactRaiseBox", fn := fun _ => fun
  | [d1, d2] => { results := [.lit (.bool false)], args := [d1, d2] }
  | _ => none }
def FnExactRaiseBoxWrongFalsely : Prop := fnExactRaiseBoxRow.holds Try.pinned (OpenSpec.ofChange fnExactRaiseBoxWrong)

/-- 'laws.FnExactRowBox': WHATEVER THE INPUT: true; the input reads as it did. -/
def fnExactRowBoxSpec : ChangeSpec := { name := "fnExactRowBox", fn := fun _ => fun
  | [d] => { results := [.lit (.bool true)], args := [d] }
  | _ => none }
def fnExactRowBoxRow : OpenClaim := { program := "ytbbicijmekinkaa", sum := "d62904552ce58036609ad242d77421f14d009876eaea9518b2fee0ce13affb8d", func := "loop.example/typesetting/laws.FnExactRowBox", spec := "fnExactRowBox", unfollowed := true, recurses := true, apart := false }
def FnExactRowBoxSaid : Prop := fnExactRowBoxRow.holds Try.pinned (OpenSpec.ofChange fnExactRowBoxSpec)

/-- ITS FALSE NEIGHBOUR: 'it returns false'. Refute it at one input. -/
def fnExactRowBoxWrong : ChangeSpec := { name := "fnExactRowBox", fn := fun _ => fun
  | [d] => { results := [.lit (.bool false)], args := [d] }
  | _ => none }
def FnExactRowBoxWrongFalsely : Prop := fnExactRowBoxRow.holds Try.pinned (OpenSpec.ofChange fnExactRowBoxWrong)

/-- 'laws.FnExactStackBox': WHATEVER THE INPUT: true; the input reads as it did. -/
def fnExactStackBoxSpec : ChangeSpec := { name := "fnExactStackBox", fn := fun _ => fun
  | [d1, d2] => { results := [.lit (.bool true)], args := [d1, d2] }
  | _ => none }
def fnExactStackBoxRow : OpenClaim := { program := "ytbbicijmekinkaa", sum := "d62904552ce58036609ad242d77421f14d009876eaea9518b2fee0ce13affb8d", func := "loop.example/typesetting/laws.FnExactStackBox", spec := "fnExactStackBox", unfollowed := true, recurses := true, apart := false }
def FnExactStackBoxSaid : Prop := fnExactStackBoxRow.holds Try.pinned (OpenSpec.ofChange fnExactStackBoxSpec)

/-- ITS FALSE NEIGHBOUR: 'it returns false'. Refute it at one input. -/
def fnExactStackBoxWrong : ChangeSpec := { name := "fnExactStackBox", fn := fun _ => fun
  | [d1, d2] => { results := [.lit (.bool false)], args := [d1, d2] }
  | _ => none }
def FnExactStackBoxWrongFalsely : Prop := fnExactStackBoxRow.holds Try.pinned (OpenSpec.ofChange fnExactStackBoxWrong)

/-- 'laws.FnInterline': WHATEVER THE INPUT: true; the input reads as it did. -/
def fnInterlineSpec : ChangeSpec := { name := "fnInterline", fn := fun _ => fun
  | [d] => { results := [.lit (.bool true)], args := [d] }
  | _ => none }
def fnInterlineRow : OpenClaim := { program := "ytbbicijmekinkaa", sum := "d62904552ce58036609ad242d77421f14d009876eaea9518b2fee0ce13affb8d", func := "loop.example/typesetting/laws.FnInterline", spec := "fnInterline", apart := false }
def FnInterlineSaid : Prop := fnInterlineRow.holds Try.pinned (OpenSpec.ofChange fnInterlineSpec)

/-- ITS FALSE NEIGHBOUR: 'it returns false'. Refute it at one input. -/
def fnInterlineWrong : ChangeSpec := { name := "fnInterline", fn := fun _ => fun
  | [d] => { results := [.lit (.bool false)], args := [d] }
  | _ => none }
def FnInterlineWrongFalsely : Prop := fnInterlineRow.holds Try.pinned (OpenSpec.ofChange fnInterlineWrong)

/-- 'laws.FnRaiseBox': WHATEVER THE INPUT: true; the input reads as it did. -/
def fnRaiseBoxSpec : ChangeSpec := { name := "fnRaiseBox", fn := fun _ => fun
  | [d] => { results := [.lit (.bool true)], args := [d] }
  | _ => none }
def fnRaiseBoxRow : OpenClaim := { program := "ytbbicijmekinkaa", sum := "d62904552ce58036609ad242d77421f14d009876eaea9518b2fee0ce13affb8d", func := "loop.example/typesetting/laws.FnRaiseBox", spec := "fnRaiseBox", apart := false }
def FnRaiseBoxSaid : Prop := fnRaiseBoxRow.holds Try.pinned (OpenSpec.ofChange fnRaiseBoxSpec)

/-- ITS FALSE NEIGHBOUR: 'it returns false'. Refute it at one input. -/
def fnRaiseBoxWrong : ChangeSpec := { name := "fnRaiseBox", fn := fun _ => fun
  | [d] => { results := [.lit (.bool false)], args := [d] }
  | _ => none }
def FnRaiseBoxWrongFalsely : Prop := fnRaiseBoxRow.holds Try.pinned (OpenSpec.ofChange fnRaiseBoxWrong)

/-- 'laws.FnRaiseZero': WHATEVER THE INPUT: true; the input reads as it did. -/
def fnRaiseZeroSpec : ChangeSpec := { name := "fnRaiseZero", fn := fun _ => fun
  | [d] => { results := [.lit (.bool true)], args := [d] }
  | _ => none }
def fnRaiseZeroRow : OpenClaim := { program := "ytbbicijmekinkaa", sum := "d62904552ce58036609ad242d77421f14d009876eaea9518b2fee0ce13affb8d", func := "loop.example/typesetting/laws.FnRaiseZero", spec := "fnRaiseZero", apart := false }
def FnRaiseZeroSaid : Prop := fnRaiseZeroRow.holds Try.pinned (OpenSpec.ofChange fnRaiseZeroSpec)

/-- ITS FALSE NEIGHBOUR: 'it returns false'. Refute it at one input. -/
def fnRaiseZeroWrong : ChangeSpec := { name := "fnRaiseZero", fn := fun _ => fun
  | [d] => { results := [.lit (.bool false)], args := [d] }
  | _ => none }
def FnRaiseZeroWrongFalsely : Prop := fnRaiseZeroRow.holds Try.pinned (OpenSpec.ofChange fnRaiseZeroWrong)

/-- 'laws.FnRowBox': WHATEVER THE INPUT: true; the input reads as it did. -/
def fnRowBoxSpec : ChangeSpec := { name := "fnRowBox", fn := fun _ => fun
  | [d] => { results := [.lit (.bool true)], args := [d] }
  | _ => none }
def fnRowBoxRow : OpenClaim := { program := "ytbbicijmekinkaa", sum := "d62904552ce58036609ad242d77421f14d009876eaea9518b2fee0ce13affb8d", func := "loop.example/typesetting/laws.FnRowBox", spec := "fnRowBox", unfollowed := true, recurses := true, apart := false }
def FnRowBoxSaid : Prop := fnRowBoxRow.holds Try.pinned (OpenSpec.ofChange fnRowBoxSpec)

/-- ITS FALSE NEIGHBOUR: 'it returns false'. Refute it at one input. -/
def fnRowBoxWrong : ChangeSpec := { name := "fnRowBox", fn := fun _ => fun
  | [d] => { results := [.lit (.bool false)], args := [d] }
  | _ => none }
def FnRowBoxWrongFalsely : Prop := fnRowBoxRow.holds Try.pinned (OpenSpec.ofChange fnRowBoxWrong)

/-- 'laws.FnRowNested': WHATEVER THE INPUT: true; the input reads as it did. -/
def fnRowNestedSpec : ChangeSpec := { name := "fnRowNested", fn := fun _ => fun
  | [d1, d2] => { results := [.lit (.bool true)], args := [d1, d2] }
  | _ => none }
def fnRowNestedRow : OpenClaim := { program := "ytbbicijmekinkaa", sum := "d62904552ce58036609ad242d77421f14d009876eaea9518b2fee0ce13affb8d", func := "loop.example/typesetting/laws.FnRowNested", spec := "fnRowNested", unfollowed := true, recurses := true, apart := false }
def FnRowNestedSaid : Prop := fnRowNestedRow.holds Try.pinned (OpenSpec.ofChange fnRowNestedSpec)

/-- ITS FALSE NEIGHBOUR: 'it returns false'. Refute it at one input. -/
def fnRowNestedWrong : ChangeSpec := { name := "fnRowNested", fn := fun _ => fun
  | [d1, d2] => { results := [.lit (.bool false)], args := [d1, d2] }
  | _ => none }
def FnRowNestedWrongFalsely : Prop := fnRowNestedRow.holds Try.pinned (OpenSpec.ofChange fnRowNestedWrong)

/-- 'laws.FnStackBox': WHATEVER THE INPUT: true; the input reads as it did. -/
def fnStackBoxSpec : ChangeSpec := { name := "fnStackBox", fn := fun _ => fun
  | [d] => { results := [.lit (.bool true)], args := [d] }
  | _ => none }
def fnStackBoxRow : OpenClaim := { program := "ytbbicijmekinkaa", sum := "d62904552ce58036609ad242d77421f14d009876eaea9518b2fee0ce13affb8d", func := "loop.example/typesetting/laws.FnStackBox", spec := "fnStackBox", unfollowed := true, recurses := true, apart := false }
def FnStackBoxSaid : Prop := fnStackBoxRow.holds Try.pinned (OpenSpec.ofChange fnStackBoxSpec)

/-- ITS FALSE NEIGHBOUR: 'it returns false'. Refute it at one input. -/
def fnStackBoxWrong : ChangeSpec := { name := "fnStackBox", fn := fun _ => fun
  | [d] => { results := [.lit (.bool false)], args := [d] }
  | _ => none }
def FnStackBoxWrongFalsely : Prop := fnStackBoxRow.holds Try.pinned (OpenSpec.ofChange fnStackBoxWrong)

/-- 'laws.FnStackOne': WHATEVER THE INPUT: true; the input reads as it did. -/
def fnStackOneSpec : ChangeSpec := { name := "fnStackOne", fn := fun _ => fun
  | [d] => { results := [.lit (.bool true)], args := [d] }
  | _ => none }
def fnStackOneRow : OpenClaim := { program := "ytbbicijmekinkaa", sum := "d62904552ce58036609ad242d77421f14d009876eaea9518b2fee0ce13affb8d", func := "loop.example/typesetting/laws.FnStackOne", spec := "fnStackOne", unfollowed := true, recurses := true, apart := false }
def FnStackOneSaid : Prop := fnStackOneRow.holds Try.pinned (OpenSpec.ofChange fnStackOneSpec)

/-- ITS FALSE NEIGHBOUR: 'it returns false'. Refute it at one input. -/
def fnStackOneWrong : ChangeSpec := { name := "fnStackOne", fn := fun _ => fun
  | [d] => { results := [.lit (.bool false)], args := [d] }
  | _ => none }
def FnStackOneWrongFalsely : Prop := fnStackOneRow.holds Try.pinned (OpenSpec.ofChange fnStackOneWrong)

/- THE SECOND FORM. 'bulk': how many values and letters a reading holds, each counted each time it is reached (what is shared counts as often as it is met; a slice's spare places count too). A statement '..UptoSaid' is the law's where the arguments, and the package variables that the reading takes, are together of bulk at most 1048576: NARROWER than '..Said'. Prove '..Said' where nothing that the law and all that it calls make is longer than what came in: it says more and counts as full. Else prove '..UptoSaid'. A law counts once. -/
mutual
def uptoBulk {H : Type} : DataW H → Nat
  | .lit (.string bytes) => bytes.length + 1
  | .lit _ => 1
  | .nil => 1
  | .ptr d => uptoBulk d + 1
  | .slice elems spare => uptoBulkAll elems + uptoBulkAll spare + 1
  | .agg parts => uptoBulkAll parts + 1
  | .iface _ d => uptoBulk d + 1
  | .map entries => uptoBulkEntries entries + 1
  | .held _ => 1
def uptoBulkAll {H : Type} : List (DataW H) → Nat
  | [] => 0
  | d :: r => uptoBulk d + uptoBulkAll r
def uptoBulkEntries {H : Type} : List (Lit × DataW H) → Nat
  | [] => 0
  | x :: r => uptoBulkEntry x + uptoBulkEntries r
def uptoBulkEntry {H : Type} : Lit × DataW H → Nat
  | (.string bytes, d) => bytes.length + uptoBulk d + 1
  | (_, d) => uptoBulk d + 1
 end
def uptoSmall : (H : Type) → List (DataW H) → Bool := fun _ ds => decide (uptoBulkAll ds ≤ 1048576)
def OpenSpec.upto (s : _root_.Go.ChangeSpec) : _root_.Go.OpenSpec := { _root_.Go.OpenSpec.ofChange s with cond := some uptoSmall }

/-- 'laws.FnExactValidBox', WHERE WHAT IT READS IS OF BULK AT MOST 1048576: true; the input reads as it did. -/
def fnExactValidBoxUptoRow : OpenClaim := { program := "ytbbicijmekinkaa", sum := "d62904552ce58036609ad242d77421f14d009876eaea9518b2fee0ce13affb8d", func := "loop.example/typesetting/laws.FnExactValidBox", spec := "fnExactValidBox", apart := false, narrowed := true }
def FnExactValidBoxUptoSaid : Prop := fnExactValidBoxUptoRow.holds Try.pinned (OpenSpec.upto fnExactValidBoxSpec)

/-- 'laws.FnExactInterline', WHERE WHAT IT READS IS OF BULK AT MOST 1048576: true; the input reads as it did. -/
def fnExactInterlineUptoRow : OpenClaim := { program := "ytbbicijmekinkaa", sum := "d62904552ce58036609ad242d77421f14d009876eaea9518b2fee0ce13affb8d", func := "loop.example/typesetting/laws.FnExactInterline", spec := "fnExactInterline", apart := false, narrowed := true }
def FnExactInterlineUptoSaid : Prop := fnExactInterlineUptoRow.holds Try.pinned (OpenSpec.upto fnExactInterlineSpec)

/-- 'laws.FnExactRaiseBox', WHERE WHAT IT READS IS OF BULK AT MOST 1048576: true; the input reads as it did. -/
def fnExactRaiseBoxUptoRow : OpenClaim := { program := "ytbbicijmekinkaa", sum := "d62904552ce58036609ad242d77421f14d009876eaea9518b2fee0ce13affb8d", func := "loop.example/typesetting/laws.FnExactRaiseBox", spec := "fnExactRaiseBox", apart := false, narrowed := true }
def FnExactRaiseBoxUptoSaid : Prop := fnExactRaiseBoxUptoRow.holds Try.pinned (OpenSpec.upto fnExactRaiseBoxSpec)

/-- 'laws.FnExactRowBox', WHERE WHAT IT READS IS OF BULK AT MOST 1048576: true; the input reads as it did. -/
def fnExactRowBoxUptoRow : OpenClaim := { program := "ytbbicijmekinkaa", sum := "d62904552ce58036609ad242d77421f14d009876eaea9518b2fee0ce13affb8d", func := "loop.example/typesetting/laws.FnExactRowBox", spec := "fnExactRowBox", unfollowed := true, recurses := true, apart := false, narrowed := true }
def FnExactRowBoxUptoSaid : Prop := fnExactRowBoxUptoRow.holds Try.pinned (OpenSpec.upto fnExactRowBoxSpec)

/-- 'laws.FnExactStackBox', WHERE WHAT IT READS IS OF BULK AT MOST 1048576: true; the input reads as it did. -/
def fnExactStackBoxUptoRow : OpenClaim := { program := "ytbbicijmekinkaa", sum := "d62904552ce58036609ad242d77421f14d009876eaea9518b2fee0ce13affb8d", func := "loop.example/typesetting/laws.FnExactStackBox", spec := "fnExactStackBox", unfollowed := true, recurses := true, apart := false, narrowed := true }
def FnExactStackBoxUptoSaid : Prop := fnExactStackBoxUptoRow.holds Try.pinned (OpenSpec.upto fnExactStackBoxSpec)

/-- 'laws.FnInterline', WHERE WHAT IT READS IS OF BULK AT MOST 1048576: true; the input reads as it did. -/
def fnInterlineUptoRow : OpenClaim := { program := "ytbbicijmekinkaa", sum := "d62904552ce58036609ad242d77421f14d009876eaea9518b2fee0ce13affb8d", func := "loop.example/typesetting/laws.FnInterline", spec := "fnInterline", apart := false, narrowed := true }
def FnInterlineUptoSaid : Prop := fnInterlineUptoRow.holds Try.pinned (OpenSpec.upto fnInterlineSpec)

/-- 'laws.FnRaiseBox', WHERE WHAT IT READS IS OF BULK AT MOST 1048576: true; the input reads as it did. -/
def fnRaiseBoxUptoRow : OpenClaim := { program := "ytbbicijmekinkaa", sum := "d62904552ce58036609ad242d77421f14d009876eaea9518b2fee0ce13affb8d", func := "loop.example/typesetting/laws.FnRaiseBox", spec := "fnRaiseBox", apart := false, narrowed := true }
def FnRaiseBoxUptoSaid : Prop := fnRaiseBoxUptoRow.holds Try.pinned (OpenSpec.upto fnRaiseBoxSpec)

/-- 'laws.FnRaiseZero', WHERE WHAT IT READS IS OF BULK AT MOST 1048576: true; the input reads as it did. -/
def fnRaiseZeroUptoRow : OpenClaim := { program := "ytbbicijmekinkaa", sum := "d62904552ce58036609ad242d77421f14d009876eaea9518b2fee0ce13affb8d", func := "loop.example/typesetting/laws.FnRaiseZero", spec := "fnRaiseZero", apart := false, narrowed := true }
def FnRaiseZeroUptoSaid : Prop := fnRaiseZeroUptoRow.holds Try.pinned (OpenSpec.upto fnRaiseZeroSpec)

/-- 'laws.FnRowBox', WHERE WHAT IT READS IS OF BULK AT MOST 1048576: true; the input reads as it did. -/
def fnRowBoxUptoRow : OpenClaim := { program := "ytbbicijmekinkaa", sum := "d62904552ce58036609ad242d77421f14d009876eaea9518b2fee0ce13affb8d", func := "loop.example/typesetting/laws.FnRowBox", spec := "fnRowBox", unfollowed := true, recurses := true, apart := false, narrowed := true }
def FnRowBoxUptoSaid : Prop := fnRowBoxUptoRow.holds Try.pinned (OpenSpec.upto fnRowBoxSpec)

/-- 'laws.FnRowNested', WHERE WHAT IT READS IS OF BULK AT MOST 1048576: true; the input reads as it did. -/
def fnRowNestedUptoRow : OpenClaim := { program := "ytbbicijmekinkaa", sum := "d62904552ce58036609ad242d77421f14d009876eaea9518b2fee0ce13affb8d", func := "loop.example/typesetting/laws.FnRowNested", spec := "fnRowNested", unfollowed := true, recurses := true, apart := false, narrowed := true }
def FnRowNestedUptoSaid : Prop := fnRowNestedUptoRow.holds Try.pinned (OpenSpec.upto fnRowNestedSpec)

/-- 'laws.FnStackBox', WHERE WHAT IT READS IS OF BULK AT MOST 1048576: true; the input reads as it did. -/
def fnStackBoxUptoRow : OpenClaim := { program := "ytbbicijmekinkaa", sum := "d62904552ce58036609ad242d77421f14d009876eaea9518b2fee0ce13affb8d", func := "loop.example/typesetting/laws.FnStackBox", spec := "fnStackBox", unfollowed := true, recurses := true, apart := false, narrowed := true }
def FnStackBoxUptoSaid : Prop := fnStackBoxUptoRow.holds Try.pinned (OpenSpec.upto fnStackBoxSpec)

/-- 'laws.FnStackOne', WHERE WHAT IT READS IS OF BULK AT MOST 1048576: true; the input reads as it did. -/
def fnStackOneUptoRow : OpenClaim := { program := "ytbbicijmekinkaa", sum := "d62904552ce58036609ad242d77421f14d009876eaea9518b2fee0ce13affb8d", func := "loop.example/typesetting/laws.FnStackOne", spec := "fnStackOne", unfollowed := true, recurses := true, apart := false, narrowed := true }
def FnStackOneUptoSaid : Prop := fnStackOneUptoRow.holds Try.pinned (OpenSpec.upto fnStackOneSpec)

end Rows
end Go.Proofs.Ytbbicijmekinkaa
