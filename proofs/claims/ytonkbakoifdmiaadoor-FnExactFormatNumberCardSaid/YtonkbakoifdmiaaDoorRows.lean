/-
  NARROWER THAN 'FOR EVERY INPUT', by the rows' own cells (each row's printed sentence says how): FnExactRoman: laid · FnExactFromRoman: laid · FnExactFormatNumber: laid · FnRomanRoundTrip: laid · FnRomanCanonical: laid · FnRomanThousand: laid · FnFormatNumber: laid.
  DERIVED. THE GIVEN ROWS OF THIS SEAT. 7 by the template 'for every input the law returns true; each argument reads behind the call as it read before'; 0 by the template 'total and deterministic' (their statements: YtonkbakoifdmiaaDoorTotals.lean).
  GIVEN WITH THE SEED: the statements are not yours to turn. If you find one false, say at which input.
  Laid BY PROGRAM, IN A SANDBOX (cutbox-rows.mjs): the forced cells as the released guide's own fill.sh prints them over the translation 7653b7448c5421a7… (all of the seat's roots in one cut). By AI agents, Wed Nov 11 2026. No macro, syntax, notation, axiom, sorry.
-/
import Derived.Test.YtonkbakoifdmiaaDoorChecked
import GoSem.Claim
import GoSem.ClaimJoined
import GoSem.ClaimMapViews
import Derived.JoinedTies
import Derived.KernelRfl
namespace Go.Proofs.YtonkbakoifdmiaaDoor
/- THE CELL 'sum', in the pinned program and in every row, IS THE sha256 OF THE DUMP (.gsa) THAT YtonkbakoifdmiaaDoorProg.lean LOADS. Nothing in Lean hashes anything: it is a label: what it is worth is what the hold of that sum in a sandbox is worth. -/
noncomputable def Tryd.pinned : Pinned := { name := "ytonkbakoifdmiaadoor", sum := "7653b7448c5421a708d481a6fda57fd9624cc0ece5ef28f82cc6b118ab192043", checked := Tryd.checked }
namespace Rows
def none {H : Type} : Left H := { results := [], args := [] }

/- WHAT THE LISTED PACKAGE-LEVEL VARIABLES READ AS WHEN THE CALL BEGINS. Each datum BY PROGRAM (the guide's laid-datum.mjs) off the statement by which the dump's own 'gosem.cut.vars' lays the variable. In a bare row this is a premise. The card (YtonkbakoifdmiaaDoorCards.lean) ties it to the program's text. -/
def laid_loop_example_typesetting_impl_romanParts {H : Type} : DataW H := .agg [.agg [.lit (.int .i64 1000), .lit (.string [109])], .agg [.lit (.int .i64 900), .lit (.string [99, 109])], .agg [.lit (.int .i64 500), .lit (.string [100])], .agg [.lit (.int .i64 400), .lit (.string [99, 100])], .agg [.lit (.int .i64 100), .lit (.string [99])], .agg [.lit (.int .i64 90), .lit (.string [120, 99])], .agg [.lit (.int .i64 50), .lit (.string [108])], .agg [.lit (.int .i64 40), .lit (.string [120, 108])], .agg [.lit (.int .i64 10), .lit (.string [120])], .agg [.lit (.int .i64 9), .lit (.string [105, 120])], .agg [.lit (.int .i64 5), .lit (.string [118])], .agg [.lit (.int .i64 4), .lit (.string [105, 118])], .agg [.lit (.int .i64 1), .lit (.string [105])]]
def laid_math_bits_deBruijn32tab {H : Type} : DataW H := .agg [.lit (.int .u8 0), .lit (.int .u8 1), .lit (.int .u8 28), .lit (.int .u8 2), .lit (.int .u8 29), .lit (.int .u8 14), .lit (.int .u8 24), .lit (.int .u8 3), .lit (.int .u8 30), .lit (.int .u8 22), .lit (.int .u8 20), .lit (.int .u8 15), .lit (.int .u8 25), .lit (.int .u8 17), .lit (.int .u8 4), .lit (.int .u8 8), .lit (.int .u8 31), .lit (.int .u8 27), .lit (.int .u8 13), .lit (.int .u8 23), .lit (.int .u8 21), .lit (.int .u8 19), .lit (.int .u8 16), .lit (.int .u8 7), .lit (.int .u8 26), .lit (.int .u8 12), .lit (.int .u8 18), .lit (.int .u8 6), .lit (.int .u8 11), .lit (.int .u8 5), .lit (.int .u8 10), .lit (.int .u8 9)]
def laid_math_bits_deBruijn64tab {H : Type} : DataW H := .agg [.lit (.int .u8 0), .lit (.int .u8 1), .lit (.int .u8 56), .lit (.int .u8 2), .lit (.int .u8 57), .lit (.int .u8 49), .lit (.int .u8 28), .lit (.int .u8 3), .lit (.int .u8 61), .lit (.int .u8 58), .lit (.int .u8 42), .lit (.int .u8 50), .lit (.int .u8 38), .lit (.int .u8 29), .lit (.int .u8 17), .lit (.int .u8 4), .lit (.int .u8 62), .lit (.int .u8 47), .lit (.int .u8 59), .lit (.int .u8 36), .lit (.int .u8 45), .lit (.int .u8 43), .lit (.int .u8 51), .lit (.int .u8 22), .lit (.int .u8 53), .lit (.int .u8 39), .lit (.int .u8 33), .lit (.int .u8 30), .lit (.int .u8 24), .lit (.int .u8 18), .lit (.int .u8 12), .lit (.int .u8 5), .lit (.int .u8 63), .lit (.int .u8 55), .lit (.int .u8 48), .lit (.int .u8 27), .lit (.int .u8 60), .lit (.int .u8 41), .lit (.int .u8 37), .lit (.int .u8 16), .lit (.int .u8 46), .lit (.int .u8 35), .lit (.int .u8 44), .lit (.int .u8 21), .lit (.int .u8 52), .lit (.int .u8 32), .lit (.int .u8 23), .lit (.int .u8 11), .lit (.int .u8 54), .lit (.int .u8 26), .lit (.int .u8 40), .lit (.int .u8 15), .lit (.int .u8 34), .lit (.int .u8 20), .lit (.int .u8 31), .lit (.int .u8 10), .lit (.int .u8 25), .lit (.int .u8 14), .lit (.int .u8 19), .lit (.int .u8 9), .lit (.int .u8 13), .lit (.int .u8 8), .lit (.int .u8 7), .lit (.int .u8 6)]
def laid_internal_strconv_uint64pow10 {H : Type} : DataW H := .agg [.lit (.int .u64 1), .lit (.int .u64 10), .lit (.int .u64 100), .lit (.int .u64 1000), .lit (.int .u64 10000), .lit (.int .u64 100000), .lit (.int .u64 1000000), .lit (.int .u64 10000000), .lit (.int .u64 100000000), .lit (.int .u64 1000000000), .lit (.int .u64 10000000000), .lit (.int .u64 100000000000), .lit (.int .u64 1000000000000), .lit (.int .u64 10000000000000), .lit (.int .u64 100000000000000), .lit (.int .u64 1000000000000000), .lit (.int .u64 10000000000000000), .lit (.int .u64 100000000000000000), .lit (.int .u64 1000000000000000000), .lit (.int .u64 10000000000000000000)]

/-- 'laws.FnExactRoman': WHATEVER THE INPUT: true; the input reads as it did. -/
def fnExactRomanSpec : ChangeSpec := { name := "fnExactRoman", vars := ["loop.example/typesetting/impl.romanParts"], fn := fun _ => fun
  | [d, g1] => { results := [.lit (.bool true)], args := [d], vars := [g1] }
  | _ => none }
def fnExactRomanRow : OpenClaim := { program := "ytonkbakoifdmiaadoor", sum := "7653b7448c5421a708d481a6fda57fd9624cc0ece5ef28f82cc6b118ab192043", func := "loop.example/typesetting/laws.FnExactRoman", spec := "fnExactRoman", named := ["loop.example/typesetting/impl.romanParts"], apart := false, laid := [("loop.example/typesetting/impl.romanParts", laid_loop_example_typesetting_impl_romanParts)] }
def FnExactRomanSaid : Prop := fnExactRomanRow.holds Tryd.pinned (OpenSpec.ofChange fnExactRomanSpec)

/-- ITS FALSE NEIGHBOUR: 'it returns false'. Refute it at one input. -/
def fnExactRomanWrong : ChangeSpec := { name := "fnExactRoman", vars := ["loop.example/typesetting/impl.romanParts"], fn := fun _ => fun
  | [d, g1] => { results := [.lit (.bool false)], args := [d], vars := [g1] }
  | _ => none }
def FnExactRomanWrongFalsely : Prop := fnExactRomanRow.holds Tryd.pinned (OpenSpec.ofChange fnExactRomanWrong)

/-- 'laws.FnExactFromRoman': WHATEVER THE INPUT: true; the input reads as it did. -/
def fnExactFromRomanSpec : ChangeSpec := { name := "fnExactFromRoman", vars := ["loop.example/typesetting/impl.romanParts"], fn := fun _ => fun
  | [d, g1] => { results := [.lit (.bool true)], args := [d], vars := [g1] }
  | _ => none }
def fnExactFromRomanRow : OpenClaim := { program := "ytonkbakoifdmiaadoor", sum := "7653b7448c5421a708d481a6fda57fd9624cc0ece5ef28f82cc6b118ab192043", func := "loop.example/typesetting/laws.FnExactFromRoman", spec := "fnExactFromRoman", named := ["loop.example/typesetting/impl.romanParts"], apart := false, laid := [("loop.example/typesetting/impl.romanParts", laid_loop_example_typesetting_impl_romanParts)] }
def FnExactFromRomanSaid : Prop := fnExactFromRomanRow.holds Tryd.pinned (OpenSpec.ofChange fnExactFromRomanSpec)

/-- ITS FALSE NEIGHBOUR: 'it returns false'. Refute it at one input. -/
def fnExactFromRomanWrong : ChangeSpec := { name := "fnExactFromRoman", vars := ["loop.example/typesetting/impl.romanParts"], fn := fun _ => fun
  | [d, g1] => { results := [.lit (.bool false)], args := [d], vars := [g1] }
  | _ => none }
def FnExactFromRomanWrongFalsely : Prop := fnExactFromRomanRow.holds Tryd.pinned (OpenSpec.ofChange fnExactFromRomanWrong)

/-- 'laws.FnExactFormatNumber': WHATEVER THE INPUT: true; the input reads as it did. -/
def fnExactFormatNumberSpec : ChangeSpec := { name := "fnExactFormatNumber", vars := ["loop.example/typesetting/impl.romanParts"], fn := fun _ => fun
  | [d1, d2, g1] => { results := [.lit (.bool true)], args := [d1, d2], vars := [g1] }
  | _ => none }
def fnExactFormatNumberRow : OpenClaim := { program := "ytonkbakoifdmiaadoor", sum := "7653b7448c5421a708d481a6fda57fd9624cc0ece5ef28f82cc6b118ab192043", func := "loop.example/typesetting/laws.FnExactFormatNumber", spec := "fnExactFormatNumber", recurses := true, named := ["internal/strconv.uint64pow10", "math/bits.deBruijn32tab", "math/bits.deBruijn64tab", "loop.example/typesetting/impl.romanParts"], apart := false, laid := [("math/bits.deBruijn32tab", laid_math_bits_deBruijn32tab), ("math/bits.deBruijn64tab", laid_math_bits_deBruijn64tab), ("internal/strconv.uint64pow10", laid_internal_strconv_uint64pow10), ("loop.example/typesetting/impl.romanParts", laid_loop_example_typesetting_impl_romanParts)] }
def FnExactFormatNumberSaid : Prop := fnExactFormatNumberRow.holds Tryd.pinned (OpenSpec.ofChange fnExactFormatNumberSpec)

/-- ITS FALSE NEIGHBOUR: 'it returns false'. Refute it at one input. -/
def fnExactFormatNumberWrong : ChangeSpec := { name := "fnExactFormatNumber", vars := ["loop.example/typesetting/impl.romanParts"], fn := fun _ => fun
  | [d1, d2, g1] => { results := [.lit (.bool false)], args := [d1, d2], vars := [g1] }
  | _ => none }
def FnExactFormatNumberWrongFalsely : Prop := fnExactFormatNumberRow.holds Tryd.pinned (OpenSpec.ofChange fnExactFormatNumberWrong)

/-- 'laws.FnRomanRoundTrip': WHATEVER THE INPUT: true; the input reads as it did. -/
def fnRomanRoundTripSpec : ChangeSpec := { name := "fnRomanRoundTrip", vars := ["loop.example/typesetting/impl.romanParts"], fn := fun _ => fun
  | [d, g1] => { results := [.lit (.bool true)], args := [d], vars := [g1] }
  | _ => none }
def fnRomanRoundTripRow : OpenClaim := { program := "ytonkbakoifdmiaadoor", sum := "7653b7448c5421a708d481a6fda57fd9624cc0ece5ef28f82cc6b118ab192043", func := "loop.example/typesetting/laws.FnRomanRoundTrip", spec := "fnRomanRoundTrip", named := ["loop.example/typesetting/impl.romanParts"], apart := false, laid := [("loop.example/typesetting/impl.romanParts", laid_loop_example_typesetting_impl_romanParts)] }
def FnRomanRoundTripSaid : Prop := fnRomanRoundTripRow.holds Tryd.pinned (OpenSpec.ofChange fnRomanRoundTripSpec)

/-- ITS FALSE NEIGHBOUR: 'it returns false'. Refute it at one input. -/
def fnRomanRoundTripWrong : ChangeSpec := { name := "fnRomanRoundTrip", vars := ["loop.example/typesetting/impl.romanParts"], fn := fun _ => fun
  | [d, g1] => { results := [.lit (.bool false)], args := [d], vars := [g1] }
  | _ => none }
def FnRomanRoundTripWrongFalsely : Prop := fnRomanRoundTripRow.holds Tryd.pinned (OpenSpec.ofChange fnRomanRoundTripWrong)

/-- 'laws.FnRomanCanonical': WHATEVER THE INPUT: true; the input reads as it did. -/
def fnRomanCanonicalSpec : ChangeSpec := { name := "fnRomanCanonical", vars := ["loop.example/typesetting/impl.romanParts"], fn := fun _ => fun
  | [d, g1] => { results := [.lit (.bool true)], args := [d], vars := [g1] }
  | _ => none }
def fnRomanCanonicalRow : OpenClaim := { program := "ytonkbakoifdmiaadoor", sum := "7653b7448c5421a708d481a6fda57fd9624cc0ece5ef28f82cc6b118ab192043", func := "loop.example/typesetting/laws.FnRomanCanonical", spec := "fnRomanCanonical", named := ["loop.example/typesetting/impl.romanParts"], apart := false, laid := [("loop.example/typesetting/impl.romanParts", laid_loop_example_typesetting_impl_romanParts)] }
def FnRomanCanonicalSaid : Prop := fnRomanCanonicalRow.holds Tryd.pinned (OpenSpec.ofChange fnRomanCanonicalSpec)

/-- ITS FALSE NEIGHBOUR: 'it returns false'. Refute it at one input. -/
def fnRomanCanonicalWrong : ChangeSpec := { name := "fnRomanCanonical", vars := ["loop.example/typesetting/impl.romanParts"], fn := fun _ => fun
  | [d, g1] => { results := [.lit (.bool false)], args := [d], vars := [g1] }
  | _ => none }
def FnRomanCanonicalWrongFalsely : Prop := fnRomanCanonicalRow.holds Tryd.pinned (OpenSpec.ofChange fnRomanCanonicalWrong)

/-- 'laws.FnRomanThousand': WHATEVER THE INPUT: true; the input reads as it did. -/
def fnRomanThousandSpec : ChangeSpec := { name := "fnRomanThousand", vars := ["loop.example/typesetting/impl.romanParts"], fn := fun _ => fun
  | [d, g1] => { results := [.lit (.bool true)], args := [d], vars := [g1] }
  | _ => none }
def fnRomanThousandRow : OpenClaim := { program := "ytonkbakoifdmiaadoor", sum := "7653b7448c5421a708d481a6fda57fd9624cc0ece5ef28f82cc6b118ab192043", func := "loop.example/typesetting/laws.FnRomanThousand", spec := "fnRomanThousand", named := ["loop.example/typesetting/impl.romanParts"], apart := false, laid := [("loop.example/typesetting/impl.romanParts", laid_loop_example_typesetting_impl_romanParts)] }
def FnRomanThousandSaid : Prop := fnRomanThousandRow.holds Tryd.pinned (OpenSpec.ofChange fnRomanThousandSpec)

/-- ITS FALSE NEIGHBOUR: 'it returns false'. Refute it at one input. -/
def fnRomanThousandWrong : ChangeSpec := { name := "fnRomanThousand", vars := ["loop.example/typesetting/impl.romanParts"], fn := fun _ => fun
  | [d, g1] => { results := [.lit (.bool false)], args := [d], vars := [g1] }
  | _ => none }
def FnRomanThousandWrongFalsely : Prop := fnRomanThousandRow.holds Tryd.pinned (OpenSpec.ofChange fnRomanThousandWrong)

/-- 'laws.FnFormatNumber': WHATEVER THE INPUT: true; the input reads as it did. -/
def fnFormatNumberSpec : ChangeSpec := { name := "fnFormatNumber", vars := ["loop.example/typesetting/impl.romanParts"], fn := fun _ => fun
  | [d, g1] => { results := [.lit (.bool true)], args := [d], vars := [g1] }
  | _ => none }
def fnFormatNumberRow : OpenClaim := { program := "ytonkbakoifdmiaadoor", sum := "7653b7448c5421a708d481a6fda57fd9624cc0ece5ef28f82cc6b118ab192043", func := "loop.example/typesetting/laws.FnFormatNumber", spec := "fnFormatNumber", recurses := true, named := ["internal/strconv.uint64pow10", "math/bits.deBruijn32tab", "math/bits.deBruijn64tab", "loop.example/typesetting/impl.romanParts"], apart := false, laid := [("math/bits.deBruijn32tab", laid_math_bits_deBruijn32tab), ("math/bits.deBruijn64tab", laid_math_bits_deBruijn64tab), ("internal/strconv.uint64pow10", laid_internal_strconv_uint64pow10), ("loop.example/typesetting/impl.romanParts", laid_loop_example_typesetting_impl_romanParts)] }
def FnFormatNumberSaid : Prop := fnFormatNumberRow.holds Tryd.pinned (OpenSpec.ofChange fnFormatNumberSpec)

/-- ITS FALSE NEIGHBOUR: 'it returns false'. Refute it at one input. -/
def fnFormatNumberWrong : ChangeSpec := { name := "fnFormatNumber", vars := ["loop.example/typesetting/impl.romanParts"], fn := fun _ => fun
  | [d, g1] => { results := [.lit (.bool false)], args := [d], vars := [g1] }
  | _ => none }
def FnFormatNumberWrongFalsely : Prop := fnFormatNumberRow.holds Tryd.pinned (OpenSpec.ofChange fnFormatNumberWrong)

/- THE SECOND FORM. 'bulk': how many values and letters a reading holds, each counted each time it is reached (what is shared counts as often as it is met; a slice's spare places count too). A statement '..UptoSaid' is the law's where the arguments, and the package variables that the reading takes, are together of bulk at most 1048576: NARROWER than '..Said'. Prove '..Said' where nothing that the law and all that it calls make is longer than what came in: it says more and counts as full. Else prove '..UptoSaid'. A law counts once. -/
mutual
def uptoBulk {H : Type} : DataW H → Nat
  | .lit (.string bytes) => bytes.length + 1
  | .lit _ => 1
  | .nil => 1
  | .ptr d => uptoBulk d + 1
  | .slice elems spare => uptoBulkAll elems + uptoBulkAll spare + 1
  | .agg parts => uptoBulkAll parts + 1
  | .iface _ d => uptoBulk d + 1
  | .map entries => uptoBulkEntries entries + 1
  | .held _ => 1
def uptoBulkAll {H : Type} : List (DataW H) → Nat
  | [] => 0
  | d :: r => uptoBulk d + uptoBulkAll r
def uptoBulkEntries {H : Type} : List (Lit × DataW H) → Nat
  | [] => 0
  | x :: r => uptoBulkEntry x + uptoBulkEntries r
def uptoBulkEntry {H : Type} : Lit × DataW H → Nat
  | (.string bytes, d) => bytes.length + uptoBulk d + 1
  | (_, d) => uptoBulk d + 1
 end
def uptoSmall : (H : Type) → List (DataW H) → Bool := fun _ ds => decide (uptoBulkAll ds ≤ 1048576)
def OpenSpec.upto (s : _root_.Go.ChangeSpec) : _root_.Go.OpenSpec := { _root_.Go.OpenSpec.ofChange s with cond := some uptoSmall }

/-- 'laws.FnExactRoman', WHERE WHAT IT READS IS OF BULK AT MOST 1048576: true; the input reads as it did. -/
def fnExactRomanUptoRow : OpenClaim := { program := "ytonkbakoifdmiaadoor", sum := "7653b7448c5421a708d481a6fda57fd9624cc0ece5ef28f82cc6b118ab192043", func := "loop.example/typesetting/laws.FnExactRoman", spec := "fnExactRoman", named := ["loop.example/typesetting/impl.romanParts"], apart := false, laid := [("loop.example/typesetting/impl.romanParts", laid_loop_example_typesetting_impl_romanParts)], narrowed := true }
def FnExactRomanUptoSaid : Prop := fnExactRomanUptoRow.holds Tryd.pinned (OpenSpec.upto fnExactRomanSpec)

/-- 'laws.FnExactFromRoman', WHERE WHAT IT READS IS OF BULK AT MOST 1048576: true; the input reads as it did. -/
def fnExactFromRomanUptoRow : OpenClaim := { program := "ytonkbakoifdmiaadoor", sum := "7653b7448c5421a708d481a6fda57fd9624cc0ece5ef28f82cc6b118ab192043", func := "loop.example/typesetting/laws.FnExactFromRoman", spec := "fnExactFromRoman", named := ["loop.example/typesetting/impl.romanParts"], apart := false, laid := [("loop.example/typesetting/impl.romanParts", laid_loop_example_typesetting_impl_romanParts)], narrowed := true }
def FnExactFromRomanUptoSaid : Prop := fnExactFromRomanUptoRow.holds Tryd.pinned (OpenSpec.upto fnExactFromRomanSpec)

/-- 'laws.FnExactFormatNumber', WHERE WHAT IT READS IS OF BULK AT MOST 1048576: true; the input reads as it did. -/
def fnExactFormatNumberUptoRow : OpenClaim := { program := "ytonkbakoifdmiaadoor", sum := "7653b7448c5421a708d481a6fda57fd9624cc0ece5ef28f82cc6b118ab192043", func := "loop.example/typesetting/laws.FnExactFormatNumber", spec := "fnExactFormatNumber", recurses := true, named := ["internal/strconv.uint64pow10", "math/bits.deBruijn32tab", "math/bits.deBruijn64tab", "loop.example/typesetting/impl.romanParts"], apart := false, laid := [("math/bits.deBruijn32tab", laid_math_bits_deBruijn32tab), ("math/bits.deBruijn64tab", laid_math_bits_deBruijn64tab), ("internal/strconv.uint64pow10", laid_internal_strconv_uint64pow10), ("loop.example/typesetting/impl.romanParts", laid_loop_example_typesetting_impl_romanParts)], narrowed := true }
def FnExactFormatNumberUptoSaid : Prop := fnExactFormatNumberUptoRow.holds Tryd.pinned (OpenSpec.upto fnExactFormatNumberSpec)

/-- 'laws.FnRomanRoundTrip', WHERE WHAT IT READS IS OF BULK AT MOST 1048576: true; the input reads as it did. -/
def fnRomanRoundTripUptoRow : OpenClaim := { program := "ytonkbakoifdmiaadoor", sum := "7653b7448c5421a708d481a6fda57fd9624cc0ece5ef28f82cc6b118ab192043", func := "loop.example/typesetting/laws.FnRomanRoundTrip", spec := "fnRomanRoundTrip", named := ["loop.example/typesetting/impl.romanParts"], apart := false, laid := [("loop.example/typesetting/impl.romanParts", laid_loop_example_typesetting_impl_romanParts)], narrowed := true }
def FnRomanRoundTripUptoSaid : Prop := fnRomanRoundTripUptoRow.holds Tryd.pinned (OpenSpec.upto fnRomanRoundTripSpec)

/-- 'laws.FnRomanCanonical', WHERE WHAT IT READS IS OF BULK AT MOST 1048576: true; the input reads as it did. -/
def fnRomanCanonicalUptoRow : OpenClaim := { program := "ytonkbakoifdmiaadoor", sum := "7653b7448c5421a708d481a6fda57fd9624cc0ece5ef28f82cc6b118ab192043", func := "loop.example/typesetting/laws.FnRomanCanonical", spec := "fnRomanCanonical", named := ["loop.example/typesetting/impl.romanParts"], apart := false, laid := [("loop.example/typesetting/impl.romanParts", laid_loop_example_typesetting_impl_romanParts)], narrowed := true }
def FnRomanCanonicalUptoSaid : Prop := fnRomanCanonicalUptoRow.holds Tryd.pinned (OpenSpec.upto fnRomanCanonicalSpec)

/-- 'laws.FnRomanThousand', WHERE WHAT IT READS IS OF BULK AT MOST 1048576: true; the input reads as it did. -/
def fnRomanThousandUptoRow : OpenClaim := { program := "ytonkbakoifdmiaadoor", sum := "7653b7448c5421a708d481a6fda57fd9624cc0ece5ef28f82cc6b118ab192043", func := "loop.example/typesetting/laws.FnRomanThousand", spec := "fnRomanThousand", named := ["loop.example/typesetting/impl.romanParts"], apart := false, laid := [("loop.example/typesetting/impl.romanParts", laid_loop_example_typesetting_impl_romanParts)], narrowed := true }
def FnRomanThousandUptoSaid : Prop := fnRomanThousandUptoRow.holds Tryd.pinned (OpenSpec.upto fnRomanThousandSpec)

/-- 'laws.FnFormatNumber', WHERE WHAT IT READS IS OF BULK AT MOST 1048576: true; the input reads as it did. -/
def fnFormatNumberUptoRow : OpenClaim := { program := "ytonkbakoifdmiaadoor", sum := "7653b7448c5421a708d481a6fda57fd9624cc0ece5ef28f82cc6b118ab192043", func := "loop.example/typesetting/laws.FnFormatNumber", spec := "fnFormatNumber", recurses := true, named := ["internal/strconv.uint64pow10", "math/bits.deBruijn32tab", "math/bits.deBruijn64tab", "loop.example/typesetting/impl.romanParts"], apart := false, laid := [("math/bits.deBruijn32tab", laid_math_bits_deBruijn32tab), ("math/bits.deBruijn64tab", laid_math_bits_deBruijn64tab), ("internal/strconv.uint64pow10", laid_internal_strconv_uint64pow10), ("loop.example/typesetting/impl.romanParts", laid_loop_example_typesetting_impl_romanParts)], narrowed := true }
def FnFormatNumberUptoSaid : Prop := fnFormatNumberUptoRow.holds Tryd.pinned (OpenSpec.upto fnFormatNumberSpec)

end Rows
end Go.Proofs.YtonkbakoifdmiaaDoor
