/-
  DERIVED. GIVEN WITH THE SEED: THE CARDS: each row of YtonkbakoifdmiaaDoorRows.lean that lists a variable, with what it lists TIED to the program's text (the seventh form; the later family's looks); each row that meets fmt, with fmt's text TOLD by the authors' own Lean function (tested against real Go, not proved from fmt's source: count such statements apart). THE CARD IS WHAT COUNTS. Prove the row's statement (the work); the ties are given (YtonkbakoifdmiaaDoorTie.lean); close each card by the builder's one call (the guide's Derived/Test/ToyasCard.lean, 'card_holds'). Laid BY PROGRAM, IN A SANDBOX (cutbox-door.mjs). By AI agents, Wed Nov 11 2026. No macro, syntax, notation, axiom, sorry.
-/
import Derived.Test.YtonkbakoifdmiaaDoorRows
import GoSem.ClaimSeven
namespace Go.Proofs.YtonkbakoifdmiaaDoor
namespace Rows

/-- THE TIED CARD OF 'laws.FnExactRoman'. -/
def fnExactRomanCard : Claim7 := { stood := { row := fnExactRomanRow, standIns := [], harness := (true, "30719358a91eadf108549a7b6d32bce5cdc8d7f981deaf81a05c693ddfb4d74e"), looks := false }, kinds := [], alts := [], laidByText := true, laidKinds := [.data], laidTests := true, laidLooks := .later }
def FnExactRomanCardSaid : Prop := Claim7.holds Tryd.pinned (.plain (OpenSpec.ofChange fnExactRomanSpec)) fnExactRomanCard

/-- THE TIED CARD OF 'laws.FnExactFromRoman'. -/
def fnExactFromRomanCard : Claim7 := { stood := { row := fnExactFromRomanRow, standIns := [], harness := (true, "30719358a91eadf108549a7b6d32bce5cdc8d7f981deaf81a05c693ddfb4d74e"), looks := false }, kinds := [], alts := [], laidByText := true, laidKinds := [.data], laidTests := true, laidLooks := .later }
def FnExactFromRomanCardSaid : Prop := Claim7.holds Tryd.pinned (.plain (OpenSpec.ofChange fnExactFromRomanSpec)) fnExactFromRomanCard

/-- THE TIED CARD OF 'laws.FnExactFormatNumber'. -/
def fnExactFormatNumberCard : Claim7 := { stood := { row := fnExactFormatNumberRow, standIns := [], harness := (true, "30719358a91eadf108549a7b6d32bce5cdc8d7f981deaf81a05c693ddfb4d74e"), looks := false }, kinds := [], alts := [], laidByText := true, laidKinds := [.data, .data, .data, .data], laidTests := true, laidLooks := .later }
def FnExactFormatNumberCardSaid : Prop := Claim7.holds Tryd.pinned (.plain (OpenSpec.ofChange fnExactFormatNumberSpec)) fnExactFormatNumberCard

/-- THE TIED CARD OF 'laws.FnRomanRoundTrip'. -/
def fnRomanRoundTripCard : Claim7 := { stood := { row := fnRomanRoundTripRow, standIns := [], harness := (true, "30719358a91eadf108549a7b6d32bce5cdc8d7f981deaf81a05c693ddfb4d74e"), looks := false }, kinds := [], alts := [], laidByText := true, laidKinds := [.data], laidTests := true, laidLooks := .later }
def FnRomanRoundTripCardSaid : Prop := Claim7.holds Tryd.pinned (.plain (OpenSpec.ofChange fnRomanRoundTripSpec)) fnRomanRoundTripCard

/-- THE TIED CARD OF 'laws.FnRomanCanonical'. -/
def fnRomanCanonicalCard : Claim7 := { stood := { row := fnRomanCanonicalRow, standIns := [], harness := (true, "30719358a91eadf108549a7b6d32bce5cdc8d7f981deaf81a05c693ddfb4d74e"), looks := false }, kinds := [], alts := [], laidByText := true, laidKinds := [.data], laidTests := true, laidLooks := .later }
def FnRomanCanonicalCardSaid : Prop := Claim7.holds Tryd.pinned (.plain (OpenSpec.ofChange fnRomanCanonicalSpec)) fnRomanCanonicalCard

/-- THE TIED CARD OF 'laws.FnRomanThousand'. -/
def fnRomanThousandCard : Claim7 := { stood := { row := fnRomanThousandRow, standIns := [], harness := (true, "30719358a91eadf108549a7b6d32bce5cdc8d7f981deaf81a05c693ddfb4d74e"), looks := false }, kinds := [], alts := [], laidByText := true, laidKinds := [.data], laidTests := true, laidLooks := .later }
def FnRomanThousandCardSaid : Prop := Claim7.holds Tryd.pinned (.plain (OpenSpec.ofChange fnRomanThousandSpec)) fnRomanThousandCard

/-- THE TIED CARD OF 'laws.FnFormatNumber'. -/
def fnFormatNumberCard : Claim7 := { stood := { row := fnFormatNumberRow, standIns := [], harness := (true, "30719358a91eadf108549a7b6d32bce5cdc8d7f981deaf81a05c693ddfb4d74e"), looks := false }, kinds := [], alts := [], laidByText := true, laidKinds := [.data, .data, .data, .data], laidTests := true, laidLooks := .later }
def FnFormatNumberCardSaid : Prop := Claim7.holds Tryd.pinned (.plain (OpenSpec.ofChange fnFormatNumberSpec)) fnFormatNumberCard

/-- THE SECOND FORM's CARD OF 'laws.FnExactRoman'. -/
def fnExactRomanUptoCard : Claim7 := { stood := { row := fnExactRomanUptoRow, standIns := [], harness := (true, "30719358a91eadf108549a7b6d32bce5cdc8d7f981deaf81a05c693ddfb4d74e"), looks := false }, kinds := [], alts := [], laidByText := true, laidKinds := [.data], laidTests := true, laidLooks := .later }
def FnExactRomanUptoCardSaid : Prop := Claim7.holds Tryd.pinned (.plain (OpenSpec.upto fnExactRomanSpec)) fnExactRomanUptoCard

/-- THE SECOND FORM's CARD OF 'laws.FnExactFromRoman'. -/
def fnExactFromRomanUptoCard : Claim7 := { stood := { row := fnExactFromRomanUptoRow, standIns := [], harness := (true, "30719358a91eadf108549a7b6d32bce5cdc8d7f981deaf81a05c693ddfb4d74e"), looks := false }, kinds := [], alts := [], laidByText := true, laidKinds := [.data], laidTests := true, laidLooks := .later }
def FnExactFromRomanUptoCardSaid : Prop := Claim7.holds Tryd.pinned (.plain (OpenSpec.upto fnExactFromRomanSpec)) fnExactFromRomanUptoCard

/-- THE SECOND FORM's CARD OF 'laws.FnExactFormatNumber'. -/
def fnExactFormatNumberUptoCard : Claim7 := { stood := { row := fnExactFormatNumberUptoRow, standIns := [], harness := (true, "30719358a91eadf108549a7b6d32bce5cdc8d7f981deaf81a05c693ddfb4d74e"), looks := false }, kinds := [], alts := [], laidByText := true, laidKinds := [.data, .data, .data, .data], laidTests := true, laidLooks := .later }
def FnExactFormatNumberUptoCardSaid : Prop := Claim7.holds Tryd.pinned (.plain (OpenSpec.upto fnExactFormatNumberSpec)) fnExactFormatNumberUptoCard

/-- THE SECOND FORM's CARD OF 'laws.FnRomanRoundTrip'. -/
def fnRomanRoundTripUptoCard : Claim7 := { stood := { row := fnRomanRoundTripUptoRow, standIns := [], harness := (true, "30719358a91eadf108549a7b6d32bce5cdc8d7f981deaf81a05c693ddfb4d74e"), looks := false }, kinds := [], alts := [], laidByText := true, laidKinds := [.data], laidTests := true, laidLooks := .later }
def FnRomanRoundTripUptoCardSaid : Prop := Claim7.holds Tryd.pinned (.plain (OpenSpec.upto fnRomanRoundTripSpec)) fnRomanRoundTripUptoCard

/-- THE SECOND FORM's CARD OF 'laws.FnRomanCanonical'. -/
def fnRomanCanonicalUptoCard : Claim7 := { stood := { row := fnRomanCanonicalUptoRow, standIns := [], harness := (true, "30719358a91eadf108549a7b6d32bce5cdc8d7f981deaf81a05c693ddfb4d74e"), looks := false }, kinds := [], alts := [], laidByText := true, laidKinds := [.data], laidTests := true, laidLooks := .later }
def FnRomanCanonicalUptoCardSaid : Prop := Claim7.holds Tryd.pinned (.plain (OpenSpec.upto fnRomanCanonicalSpec)) fnRomanCanonicalUptoCard

/-- THE SECOND FORM's CARD OF 'laws.FnRomanThousand'. -/
def fnRomanThousandUptoCard : Claim7 := { stood := { row := fnRomanThousandUptoRow, standIns := [], harness := (true, "30719358a91eadf108549a7b6d32bce5cdc8d7f981deaf81a05c693ddfb4d74e"), looks := false }, kinds := [], alts := [], laidByText := true, laidKinds := [.data], laidTests := true, laidLooks := .later }
def FnRomanThousandUptoCardSaid : Prop := Claim7.holds Tryd.pinned (.plain (OpenSpec.upto fnRomanThousandSpec)) fnRomanThousandUptoCard

/-- THE SECOND FORM's CARD OF 'laws.FnFormatNumber'. -/
def fnFormatNumberUptoCard : Claim7 := { stood := { row := fnFormatNumberUptoRow, standIns := [], harness := (true, "30719358a91eadf108549a7b6d32bce5cdc8d7f981deaf81a05c693ddfb4d74e"), looks := false }, kinds := [], alts := [], laidByText := true, laidKinds := [.data, .data, .data, .data], laidTests := true, laidLooks := .later }
def FnFormatNumberUptoCardSaid : Prop := Claim7.holds Tryd.pinned (.plain (OpenSpec.upto fnFormatNumberSpec)) fnFormatNumberUptoCard
end Rows
end Go.Proofs.YtonkbakoifdmiaaDoor
