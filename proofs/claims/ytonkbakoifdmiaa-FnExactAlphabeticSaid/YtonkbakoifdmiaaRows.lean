/-
  No cell of these rows narrows 'for every input' (looked for: loops, veiled, ifaces, maps, wideKeys, modest, calm, conditions, laid).
  DERIVED. THE GIVEN ROWS OF THIS SEAT. 5 by the template 'for every input the law returns true; each argument reads behind the call as it read before'; 0 by the template 'total and deterministic' (their statements: YtonkbakoifdmiaaTotals.lean).
  GIVEN WITH THE SEED: the statements are not yours to turn. If you find one false, say at which input.
  Laid BY PROGRAM, IN A SANDBOX (cutbox-rows.mjs): the forced cells as the released guide's own fill.sh prints them over the translation db2b07ad1b205a87… (all of the seat's roots in one cut). By AI agents, Wed Nov 11 2026. No macro, syntax, notation, axiom, sorry.
-/
import Derived.Test.YtonkbakoifdmiaaChecked
import GoSem.Claim
import GoSem.ClaimJoined
import GoSem.ClaimMapViews
import Derived.JoinedTies
import Derived.KernelRfl
namespace Go.Proofs.Ytonkbakoifdmiaa
/- THE CELL 'sum', in the pinned program and in every row, IS THE sha256 OF THE DUMP (.gsa) THAT YtonkbakoifdmiaaProg.lean LOADS. Nothing in Lean hashes anything: it is a label: what it is worth is what the hold of that sum in a sandbox is worth. -/
noncomputable def Try.pinned : Pinned := { name := "ytonkbakoifdmiaa", sum := "db2b07ad1b205a87a9165d4899fb17121eaa16fb803b44c3a6afec410d9e6fa2", checked := Try.checked }
namespace Rows
def none {H : Type} : Left H := { results := [], args := [] }

/-- 'laws.FnExactAlphabetic': WHATEVER THE INPUT: true; the input reads as it did. -/
def fnExactAlphabeticSpec : ChangeSpec := { name := "fnExactAlphabetic", fn := fun _ => fun
  | [d] => { results := [.lit (.bool true)], args := [d] }
  | _ => none }
def fnExactAlphabeticRow : OpenClaim := { program := "ytonkbakoifdmiaa", sum := "db2b07ad1b205a87a9165d4899fb17121eaa16fb803b44c3a6afec410d9e6fa2", func := "loop.example/typesetting/laws.FnExactAlphabetic", spec := "fnExactAlphabetic", apart := false }
def FnExactAlphabeticSaid : Prop := fnExactAlphabeticRow.holds Try.pinned (OpenSpec.ofChange fnExactAlphabeticSpec)

/-- ITS FALSE NEIGHBOUR: 'it returns false'. Refute it at one input. -/
def fnExactAlphabeticWrong : ChangeSpec := { name := "fnExactAlphabetic", fn := fun _ => fun
  | [d] => { results := [.lit (.bool false)], args := [d] }
  | _ => none }
def FnExactAlphabeticWrongFalsely : Prop := fnExactAlphabeticRow.holds Try.pinned (OpenSpec.ofChange fnExactAlphabeticWrong)

/-- 'laws.FnExactFromAlphabetic': WHATEVER THE INPUT: true; the input reads as it did. -/
def fnExactFromAlphabeticSpec : ChangeSpec := { name := "fnExactFromAlphabetic", fn := fun _ => fun
  | [d] => { results := [.lit (.bool true)], args := [d] }
  | _ => none }
def fnExactFromAlphabeticRow : OpenClaim := { program := "ytonkbakoifdmiaa", sum := "db2b07ad1b205a87a9165d4899fb17121eaa16fb803b44c3a6afec410d9e6fa2", func := "loop.example/typesetting/laws.FnExactFromAlphabetic", spec := "fnExactFromAlphabetic", apart := false }
def FnExactFromAlphabeticSaid : Prop := fnExactFromAlphabeticRow.holds Try.pinned (OpenSpec.ofChange fnExactFromAlphabeticSpec)

/-- ITS FALSE NEIGHBOUR: 'it returns false'. Refute it at one input. -/
def fnExactFromAlphabeticWrong : ChangeSpec := { name := "fnExactFromAlphabetic", fn := fun _ => fun
  | [d] => { results := [.lit (.bool false)], args := [d] }
  | _ => none }
def FnExactFromAlphabeticWrongFalsely : Prop := fnExactFromAlphabeticRow.holds Try.pinned (OpenSpec.ofChange fnExactFromAlphabeticWrong)

/-- 'laws.FnAlphabeticRoundTrip': WHATEVER THE INPUT: true; the input reads as it did. -/
def fnAlphabeticRoundTripSpec : ChangeSpec := { name := "fnAlphabeticRoundTrip", fn := fun _ => fun
  | [d] => { results := [.lit (.bool true)], args := [d] }
  | _ => none }
def fnAlphabeticRoundTripRow : OpenClaim := { program := "ytonkbakoifdmiaa", sum := "db2b07ad1b205a87a9165d4899fb17121eaa16fb803b44c3a6afec410d9e6fa2", func := "loop.example/typesetting/laws.FnAlphabeticRoundTrip", spec := "fnAlphabeticRoundTrip", apart := false }
def FnAlphabeticRoundTripSaid : Prop := fnAlphabeticRoundTripRow.holds Try.pinned (OpenSpec.ofChange fnAlphabeticRoundTripSpec)

/-- ITS FALSE NEIGHBOUR: 'it returns false'. Refute it at one input. -/
def fnAlphabeticRoundTripWrong : ChangeSpec := { name := "fnAlphabeticRoundTrip", fn := fun _ => fun
  | [d] => { results := [.lit (.bool false)], args := [d] }
  | _ => none }
def FnAlphabeticRoundTripWrongFalsely : Prop := fnAlphabeticRoundTripRow.holds Try.pinned (OpenSpec.ofChange fnAlphabeticRoundTripWrong)

/-- 'laws.FnAlphabeticCanonical': WHATEVER THE INPUT: true; the input reads as it did. -/
def fnAlphabeticCanonicalSpec : ChangeSpec := { name := "fnAlphabeticCanonical", fn := fun _ => fun
  | [d] => { results := [.lit (.bool true)], args := [d] }
  | _ => none }
def fnAlphabeticCanonicalRow : OpenClaim := { program := "ytonkbakoifdmiaa", sum := "db2b07ad1b205a87a9165d4899fb17121eaa16fb803b44c3a6afec410d9e6fa2", func := "loop.example/typesetting/laws.FnAlphabeticCanonical", spec := "fnAlphabeticCanonical", apart := false }
def FnAlphabeticCanonicalSaid : Prop := fnAlphabeticCanonicalRow.holds Try.pinned (OpenSpec.ofChange fnAlphabeticCanonicalSpec)

/-- ITS FALSE NEIGHBOUR: 'it returns false'. Refute it at one input. -/
def fnAlphabeticCanonicalWrong : ChangeSpec := { name := "fnAlphabeticCanonical", fn := fun _ => fun
  | [d] => { results := [.lit (.bool false)], args := [d] }
  | _ => none }
def FnAlphabeticCanonicalWrongFalsely : Prop := fnAlphabeticCanonicalRow.holds Try.pinned (OpenSpec.ofChange fnAlphabeticCanonicalWrong)

/-- 'laws.FnAlphabeticOrder': WHATEVER THE INPUT: true; the input reads as it did. -/
def fnAlphabeticOrderSpec : ChangeSpec := { name := "fnAlphabeticOrder", fn := fun _ => fun
  | [d] => { results := [.lit (.bool true)], args := [d] }
  | _ => none }
def fnAlphabeticOrderRow : OpenClaim := { program := "ytonkbakoifdmiaa", sum := "db2b07ad1b205a87a9165d4899fb17121eaa16fb803b44c3a6afec410d9e6fa2", func := "loop.example/typesetting/laws.FnAlphabeticOrder", spec := "fnAlphabeticOrder", apart := false }
def FnAlphabeticOrderSaid : Prop := fnAlphabeticOrderRow.holds Try.pinned (OpenSpec.ofChange fnAlphabeticOrderSpec)

/-- ITS FALSE NEIGHBOUR: 'it returns false'. Refute it at one input. -/
def fnAlphabeticOrderWrong : ChangeSpec := { name := "fnAlphabeticOrder", fn := fun _ => fun
  | [d] => { results := [.lit (.bool false)], args := [d] }
  | _ => none }
def FnAlphabeticOrderWrongFalsely : Prop := fnAlphabeticOrderRow.holds Try.pinned (OpenSpec.ofChange fnAlphabeticOrderWrong)

/- THE SECOND FORM. 'bulk': how many values and letters a reading holds, each counted each time it is reached (what is shared counts as often as it is met; a slice's spare places count too). A statement '..UptoSaid' is the law's where the arguments, and the package variables that the reading takes, are together of bulk at most 1048576: NARROWER than '..Said'. Prove '..Said' where nothing that the law and all that it calls make is longer than what came in: it says more and counts as full. Else prove '..UptoSaid'. A law counts once. -/
mutual
def uptoBulk {H : Type} : DataW H → Nat
  | .lit (.string bytes) => bytes.length + 1
  | .lit _ => 1
  | .nil => 1
  | .ptr d => uptoBulk d + 1
  | .slice elems spare => uptoBulkAll elems + uptoBulkAll spare + 1
  | .agg parts => uptoBulkAll parts + 1
  | .iface _ d => uptoBulk d + 1
  | .map entries => uptoBulkEntries entries + 1
  | .held _ => 1
def uptoBulkAll {H : Type} : List (DataW H) → Nat
  | [] => 0
  | d :: r => uptoBulk d + uptoBulkAll r
def uptoBulkEntries {H : Type} : List (Lit × DataW H) → Nat
  | [] => 0
  | x :: r => uptoBulkEntry x + uptoBulkEntries r
def uptoBulkEntry {H : Type} : Lit × DataW H → Nat
  | (.string bytes, d) => bytes.length + uptoBulk d + 1
  | (_, d) => uptoBulk d + 1
 end
def uptoSmall : (H : Type) → List (DataW H) → Bool := fun _ ds => decide (uptoBulkAll ds ≤ 1048576)
def OpenSpec.upto (s : _root_.Go.ChangeSpec) : _root_.Go.OpenSpec := { _root_.Go.OpenSpec.ofChange s with cond := some uptoSmall }

/-- 'laws.FnExactAlphabetic', WHERE WHAT IT READS IS OF BULK AT MOST 1048576: true; the input reads as it did. -/
def fnExactAlphabeticUptoRow : OpenClaim := { program := "ytonkbakoifdmiaa", sum := "db2b07ad1b205a87a9165d4899fb17121eaa16fb803b44c3a6afec410d9e6fa2", func := "loop.example/typesetting/laws.FnExactAlphabetic", spec := "fnExactAlphabetic", apart := false, narrowed := true }
def FnExactAlphabeticUptoSaid : Prop := fnExactAlphabeticUptoRow.holds Try.pinned (OpenSpec.upto fnExactAlphabeticSpec)

/-- 'laws.FnExactFromAlphabetic', WHERE WHAT IT READS IS OF BULK AT MOST 1048576: true; the input reads as it did. -/
def fnExactFromAlphabeticUptoRow : OpenClaim := { program := "ytonkbakoifdmiaa", sum := "db2b07ad1b205a87a9165d4899fb17121eaa16fb803b44c3a6afec410d9e6fa2", func := "loop.example/typesetting/laws.FnExactFromAlphabetic", spec := "fnExactFromAlphabetic", apart := false, narrowed := true }
def FnExactFromAlphabeticUptoSaid : Prop := fnExactFromAlphabeticUptoRow.holds Try.pinned (OpenSpec.upto fnExactFromAlphabeticSpec)

/-- 'laws.FnAlphabeticRoundTrip', WHERE WHAT IT READS IS OF BULK AT MOST 1048576: true; the input reads as it did. -/
def fnAlphabeticRoundTripUptoRow : OpenClaim := { program := "ytonkbakoifdmiaa", sum := "db2b07ad1b205a87a9165d4899fb17121eaa16fb803b44c3a6afec410d9e6fa2", func := "loop.example/typesetting/laws.FnAlphabeticRoundTrip", spec := "fnAlphabeticRoundTrip", apart := false, narrowed := true }
def FnAlphabeticRoundTripUptoSaid : Prop := fnAlphabeticRoundTripUptoRow.holds Try.pinned (OpenSpec.upto fnAlphabeticRoundTripSpec)

/-- 'laws.FnAlphabeticCanonical', WHERE WHAT IT READS IS OF BULK AT MOST 1048576: true; the input reads as it did. -/
def fnAlphabeticCanonicalUptoRow : OpenClaim := { program := "ytonkbakoifdmiaa", sum := "db2b07ad1b205a87a9165d4899fb17121eaa16fb803b44c3a6afec410d9e6fa2", func := "loop.example/typesetting/laws.FnAlphabeticCanonical", spec := "fnAlphabeticCanonical", apart := false, narrowed := true }
def FnAlphabeticCanonicalUptoSaid : Prop := fnAlphabeticCanonicalUptoRow.holds Try.pinned (OpenSpec.upto fnAlphabeticCanonicalSpec)

/-- 'laws.FnAlphabeticOrder', WHERE WHAT IT READS IS OF BULK AT MOST 1048576: true; the input reads as it did. -/
def fnAlphabeticOrderUptoRow : OpenClaim := { program := "ytonkbakoifdmiaa", sum := "db2b07ad1b205a87a9165d4899fb17121eaa16fb803b44c3a6afec410d9e6fa2", func := "loop.example/typesetting/laws.FnAlphabeticOrder", spec := "fnAlphabeticOrder", apart := false, narrowed := true }
def FnAlphabeticOrderUptoSaid : Prop := fnAlphabeticOrderUptoRow.holds Try.pinned (OpenSpec.upto fnAlphabeticOrderSpec)

end Rows
end Go.Proofs.Ytonkbakoifdmiaa
