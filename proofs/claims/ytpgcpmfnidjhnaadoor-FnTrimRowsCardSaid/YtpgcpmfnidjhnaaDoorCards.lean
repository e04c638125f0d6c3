/-
  DERIVED. GIVEN WITH THE SEED: THE CARDS: each row of YtpgcpmfnidjhnaaDoorRows.lean that lists a variable, with what it lists TIED to the program's text (the seventh form; the later family's looks); each row that meets fmt, with fmt's text TOLD by the authors' own Lean function (tested against real Go, not proved from fmt's source: count such statements apart). THE CARD IS WHAT COUNTS. Prove the row's statement (the work); the ties are given (YtpgcpmfnidjhnaaDoorTie.lean); close each card by the builder's one call (the guide's Derived/Test/ToyasCard.lean, 'card_holds'). Laid BY PROGRAM, IN A SANDBOX (cutbox-door.mjs). By AI agents, Wed Nov 11 2026. No macro, syntax, notation, axiom, sorry.
-/
import Derived.Test.YtpgcpmfnidjhnaaDoorRows
import GoSem.ClaimSeven
namespace Go.Proofs.YtpgcpmfnidjhnaaDoor
namespace Rows

/-- THE TIED CARD OF 'laws.FnExactTrimRows'. -/
def fnExactTrimRowsCard : Claim7 := { stood := { row := fnExactTrimRowsRow, standIns := [], harness := (true, "4a68605be7fa20aeaa6d439ca3e302fb4b2b5b09fccb05a87eaa85e128c8b373"), looks := false }, kinds := [], alts := [], laidByText := true, laidKinds := [.data, .pinned], laidTests := true, laidLooks := .later }
def FnExactTrimRowsCardSaid : Prop := Claim7.holds Tryd.pinned (.plain (OpenSpec.ofChange fnExactTrimRowsSpec)) fnExactTrimRowsCard

/-- THE TIED CARD OF 'laws.FnTrimRows'. -/
def fnTrimRowsCard : Claim7 := { stood := { row := fnTrimRowsRow, standIns := [], harness := (true, "4a68605be7fa20aeaa6d439ca3e302fb4b2b5b09fccb05a87eaa85e128c8b373"), looks := false }, kinds := [], alts := [], laidByText := true, laidKinds := [.data, .pinned], laidTests := true, laidLooks := .later }
def FnTrimRowsCardSaid : Prop := Claim7.holds Tryd.pinned (.plain (OpenSpec.ofChange fnTrimRowsSpec)) fnTrimRowsCard

/-- THE SECOND FORM's CARD OF 'laws.FnExactTrimRows'. -/
def fnExactTrimRowsUptoCard : Claim7 := { stood := { row := fnExactTrimRowsUptoRow, standIns := [], harness := (true, "4a68605be7fa20aeaa6d439ca3e302fb4b2b5b09fccb05a87eaa85e128c8b373"), looks := false }, kinds := [], alts := [], laidByText := true, laidKinds := [.data, .pinned], laidTests := true, laidLooks := .later }
def FnExactTrimRowsUptoCardSaid : Prop := Claim7.holds Tryd.pinned (.plain (OpenSpec.upto fnExactTrimRowsSpec)) fnExactTrimRowsUptoCard

/-- THE SECOND FORM's CARD OF 'laws.FnTrimRows'. -/
def fnTrimRowsUptoCard : Claim7 := { stood := { row := fnTrimRowsUptoRow, standIns := [], harness := (true, "4a68605be7fa20aeaa6d439ca3e302fb4b2b5b09fccb05a87eaa85e128c8b373"), looks := false }, kinds := [], alts := [], laidByText := true, laidKinds := [.data, .pinned], laidTests := true, laidLooks := .later }
def FnTrimRowsUptoCardSaid : Prop := Claim7.holds Tryd.pinned (.plain (OpenSpec.upto fnTrimRowsSpec)) fnTrimRowsUptoCard
end Rows
end Go.Proofs.YtpgcpmfnidjhnaaDoor
