/-
  DERIVED. GIVEN WITH THE SEED: THE CARDS: each row of YtcpmaddleleblaaDoorRows.lean that lists a variable, with what it lists TIED to the program's text (the seventh form; the later family's looks); each row that meets fmt, with fmt's text TOLD by the authors' own Lean function (tested against real Go, not proved from fmt's source: count such statements apart). THE CARD IS WHAT COUNTS. Prove the row's statement (the work); the ties are given (YtcpmaddleleblaaDoorTie.lean); close each card by the builder's one call (the guide's Derived/Test/ToyasCard.lean, 'card_holds'). Laid BY PROGRAM, IN A SANDBOX (cutbox-door.mjs). By AI agents, Wed Nov 11 2026. No macro, syntax, notation, axiom, sorry.
-/
import Derived.Test.YtcpmaddleleblaaDoorRows
import GoSem.ClaimSeven
namespace Go.Proofs.YtcpmaddleleblaaDoor
namespace Rows

/-- THE TIED CARD OF 'racewaylaw11.GroupGives'. -/
def groupGivesCard : Claim7 := { stood := { row := groupGivesRow, standIns := [], harness := (true, "bfd6b67fb9a6388ae2807e41f037f980654dedd1c6df111306e4570dbd493622"), looks := false }, kinds := [], alts := [], laidByText := true, laidKinds := [.data], laidTests := true, laidLooks := .later }
def GroupGivesCardSaid : Prop := Claim7.holds Tryd.pinned (.plain (OpenSpec.ofChange groupGivesSpec)) groupGivesCard

/-- THE TIED CARD OF 'racewaylaw11.GroupDumps'. -/
def groupDumpsCard : Claim7 := { stood := { row := groupDumpsRow, standIns := [], harness := (true, "bfd6b67fb9a6388ae2807e41f037f980654dedd1c6df111306e4570dbd493622"), looks := false }, kinds := [], alts := [], laidByText := true, laidKinds := [.data], laidTests := true, laidLooks := .later }
def GroupDumpsCardSaid : Prop := Claim7.holds Tryd.pinned (.plain (OpenSpec.ofChange groupDumpsSpec)) groupDumpsCard

/-- THE TIED CARD OF 'racewaylaw11.GroupBack'. -/
def groupBackCard : Claim7 := { stood := { row := groupBackRow, standIns := [], harness := (true, "bfd6b67fb9a6388ae2807e41f037f980654dedd1c6df111306e4570dbd493622"), looks := false }, kinds := [], alts := [], laidByText := true, laidKinds := [.data], laidTests := true, laidLooks := .later }
def GroupBackCardSaid : Prop := Claim7.holds Tryd.pinned (.plain (OpenSpec.ofChange groupBackSpec)) groupBackCard

/-- THE TIED CARD OF 'racewaylaw11.GroupOrder'. -/
def groupOrderCard : Claim7 := { stood := { row := groupOrderRow, standIns := [], harness := (true, "bfd6b67fb9a6388ae2807e41f037f980654dedd1c6df111306e4570dbd493622"), looks := false }, kinds := [], alts := [], laidByText := true, laidKinds := [.data], laidTests := true, laidLooks := .later }
def GroupOrderCardSaid : Prop := Claim7.holds Tryd.pinned (.plain (OpenSpec.ofChange groupOrderSpec)) groupOrderCard

/-- THE TIED CARD OF 'racewaylaw11.GroupTokens'. -/
def groupTokensCard : Claim7 := { stood := { row := groupTokensRow, standIns := [], harness := (true, "bfd6b67fb9a6388ae2807e41f037f980654dedd1c6df111306e4570dbd493622"), looks := false }, kinds := [], alts := [], laidByText := true, laidKinds := [.data], laidTests := true, laidLooks := .later }
def GroupTokensCardSaid : Prop := Claim7.holds Tryd.pinned (.plain (OpenSpec.ofChange groupTokensSpec)) groupTokensCard

/-- THE SECOND FORM's CARD OF 'racewaylaw11.GroupGives'. -/
def groupGivesUptoCard : Claim7 := { stood := { row := groupGivesUptoRow, standIns := [], harness := (true, "bfd6b67fb9a6388ae2807e41f037f980654dedd1c6df111306e4570dbd493622"), looks := false }, kinds := [], alts := [], laidByText := true, laidKinds := [.data], laidTests := true, laidLooks := .later }
def GroupGivesUptoCardSaid : Prop := Claim7.holds Tryd.pinned (.plain (OpenSpec.upto groupGivesSpec)) groupGivesUptoCard

/-- THE SECOND FORM's CARD OF 'racewaylaw11.GroupDumps'. -/
def groupDumpsUptoCard : Claim7 := { stood := { row := groupDumpsUptoRow, standIns := [], harness := (true, "bfd6b67fb9a6388ae2807e41f037f980654dedd1c6df111306e4570dbd493622"), looks := false }, kinds := [], alts := [], laidByText := true, laidKinds := [.data], laidTests := true, laidLooks := .later }
def GroupDumpsUptoCardSaid : Prop := Claim7.holds Tryd.pinned (.plain (OpenSpec.upto groupDumpsSpec)) groupDumpsUptoCard

/-- THE SECOND FORM's CARD OF 'racewaylaw11.GroupBack'. -/
def groupBackUptoCard : Claim7 := { stood := { row := groupBackUptoRow, standIns := [], harness := (true, "bfd6b67fb9a6388ae2807e41f037f980654dedd1c6df111306e4570dbd493622"), looks := false }, kinds := [], alts := [], laidByText := true, laidKinds := [.data], laidTests := true, laidLooks := .later }
def GroupBackUptoCardSaid : Prop := Claim7.holds Tryd.pinned (.plain (OpenSpec.upto groupBackSpec)) groupBackUptoCard

/-- THE SECOND FORM's CARD OF 'racewaylaw11.GroupOrder'. -/
def groupOrderUptoCard : Claim7 := { stood := { row := groupOrderUptoRow, standIns := [], harness := (true, "bfd6b67fb9a6388ae2807e41f037f980654dedd1c6df111306e4570dbd493622"), looks := false }, kinds := [], alts := [], laidByText := true, laidKinds := [.data], laidTests := true, laidLooks := .later }
def GroupOrderUptoCardSaid : Prop := Claim7.holds Tryd.pinned (.plain (OpenSpec.upto groupOrderSpec)) groupOrderUptoCard

/-- THE SECOND FORM's CARD OF 'racewaylaw11.GroupTokens'. -/
def groupTokensUptoCard : Claim7 := { stood := { row := groupTokensUptoRow, standIns := [], harness := (true, "bfd6b67fb9a6388ae2807e41f037f980654dedd1c6df111306e4570dbd493622"), looks := false }, kinds := [], alts := [], laidByText := true, laidKinds := [.data], laidTests := true, laidLooks := .later }
def GroupTokensUptoCardSaid : Prop := Claim7.holds Tryd.pinned (.plain (OpenSpec.upto groupTokensSpec)) groupTokensUptoCard
end Rows
end Go.Proofs.YtcpmaddleleblaaDoor
