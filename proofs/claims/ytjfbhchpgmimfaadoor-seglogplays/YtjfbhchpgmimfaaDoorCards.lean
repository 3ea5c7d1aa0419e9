/-
  DERIVED. GIVEN WITH THE SEED: THE CARDS: each row of YtjfbhchpgmimfaaDoorRows.lean that lists a variable, with what it lists TIED to the program's text (the seventh form; the later family's looks); each row that meets fmt, with fmt's text TOLD by the authors' own Lean function (tested against real Go, not proved from fmt's source: count such statements apart). THE CARD IS WHAT COUNTS. Prove the row's statement (the work); the ties are given (YtjfbhchpgmimfaaDoorTie.lean); close each card by the builder's one call (the guide's Derived/Test/ToyasCard.lean, 'card_holds'). Laid BY PROGRAM, IN A SANDBOX (cutbox-door.mjs). By AI agents, Wed Nov 11 2026. No macro, syntax, notation, axiom, sorry.
-/
import Derived.Test.YtjfbhchpgmimfaaDoorRows
import GoSem.ClaimSeven
namespace Go.Proofs.YtjfbhchpgmimfaaDoor
namespace Rows

/-- THE TIED CARD OF 'racewaylaw07.SeglogPlays'. -/
def seglogPlaysCard : Claim7 := { stood := { row := seglogPlaysRow, standIns := [], harness := (true, "81751b2e32d02f8d9ec49a9ea4ccc3595dcd49d218b71278f908dfea719f9856"), looks := false }, kinds := [], alts := [], laidByText := true, laidKinds := [.data], laidTests := true, laidLooks := .later }
def SeglogPlaysCardSaid : Prop := Claim7.holds Tryd.pinned (.plain (OpenSpec.ofChange seglogPlaysSpec)) seglogPlaysCard

/-- THE TIED CARD OF 'racewaylaw07.SeglogNobody'. -/
def seglogNobodyCard : Claim7 := { stood := { row := seglogNobodyRow, standIns := [], harness := (true, "81751b2e32d02f8d9ec49a9ea4ccc3595dcd49d218b71278f908dfea719f9856"), looks := false }, kinds := [], alts := [], laidByText := true, laidKinds := [.data], laidTests := true, laidLooks := .later }
def SeglogNobodyCardSaid : Prop := Claim7.holds Tryd.pinned (.plain (OpenSpec.ofChange seglogNobodySpec)) seglogNobodyCard

/-- THE TIED CARD OF 'racewaylaw07.SeglogPrefix'. -/
def seglogPrefixCard : Claim7 := { stood := { row := seglogPrefixRow, standIns := [], harness := (true, "81751b2e32d02f8d9ec49a9ea4ccc3595dcd49d218b71278f908dfea719f9856"), looks := false }, kinds := [], alts := [], laidByText := true, laidKinds := [.data], laidTests := true, laidLooks := .later }
def SeglogPrefixCardSaid : Prop := Claim7.holds Tryd.pinned (.plain (OpenSpec.ofChange seglogPrefixSpec)) seglogPrefixCard

/-- THE TIED CARD OF 'racewaylaw07.SeglogSynced'. -/
def seglogSyncedCard : Claim7 := { stood := { row := seglogSyncedRow, standIns := [], harness := (true, "81751b2e32d02f8d9ec49a9ea4ccc3595dcd49d218b71278f908dfea719f9856"), looks := false }, kinds := [], alts := [], laidByText := true, laidKinds := [.data], laidTests := true, laidLooks := .later }
def SeglogSyncedCardSaid : Prop := Claim7.holds Tryd.pinned (.plain (OpenSpec.ofChange seglogSyncedSpec)) seglogSyncedCard

/-- THE TIED CARD OF 'racewaylaw07.SeglogDrops'. -/
def seglogDropsCard : Claim7 := { stood := { row := seglogDropsRow, standIns := [], harness := (true, "81751b2e32d02f8d9ec49a9ea4ccc3595dcd49d218b71278f908dfea719f9856"), looks := false }, kinds := [], alts := [], laidByText := true, laidKinds := [.data], laidTests := true, laidLooks := .later }
def SeglogDropsCardSaid : Prop := Claim7.holds Tryd.pinned (.plain (OpenSpec.ofChange seglogDropsSpec)) seglogDropsCard

/-- THE TIED CARD OF 'racewaylaw07.SeglogSegments'. -/
def seglogSegmentsCard : Claim7 := { stood := { row := seglogSegmentsRow, standIns := [], harness := (true, "81751b2e32d02f8d9ec49a9ea4ccc3595dcd49d218b71278f908dfea719f9856"), looks := false }, kinds := [], alts := [], laidByText := true, laidKinds := [.data], laidTests := true, laidLooks := .later }
def SeglogSegmentsCardSaid : Prop := Claim7.holds Tryd.pinned (.plain (OpenSpec.ofChange seglogSegmentsSpec)) seglogSegmentsCard

/-- THE SECOND FORM's CARD OF 'racewaylaw07.SeglogPlays'. -/
def seglogPlaysUptoCard : Claim7 := { stood := { row := seglogPlaysUptoRow, standIns := [], harness := (true, "81751b2e32d02f8d9ec49a9ea4ccc3595dcd49d218b71278f908dfea719f9856"), looks := false }, kinds := [], alts := [], laidByText := true, laidKinds := [.data], laidTests := true, laidLooks := .later }
def SeglogPlaysUptoCardSaid : Prop := Claim7.holds Tryd.pinned (.plain (OpenSpec.upto seglogPlaysSpec)) seglogPlaysUptoCard

/-- THE SECOND FORM's CARD OF 'racewaylaw07.SeglogNobody'. -/
def seglogNobodyUptoCard : Claim7 := { stood := { row := seglogNobodyUptoRow, standIns := [], harness := (true, "81751b2e32d02f8d9ec49a9ea4ccc3595dcd49d218b71278f908dfea719f9856"), looks := false }, kinds := [], alts := [], laidByText := true, laidKinds := [.data], laidTests := true, laidLooks := .later }
def SeglogNobodyUptoCardSaid : Prop := Claim7.holds Tryd.pinned (.plain (OpenSpec.upto seglogNobodySpec)) seglogNobodyUptoCard

/-- THE SECOND FORM's CARD OF 'racewaylaw07.SeglogPrefix'. -/
def seglogPrefixUptoCard : Claim7 := { stood := { row := seglogPrefixUptoRow, standIns := [], harness := (true, "81751b2e32d02f8d9ec49a9ea4ccc3595dcd49d218b71278f908dfea719f9856"), looks := false }, kinds := [], alts := [], laidByText := true, laidKinds := [.data], laidTests := true, laidLooks := .later }
def SeglogPrefixUptoCardSaid : Prop := Claim7.holds Tryd.pinned (.plain (OpenSpec.upto seglogPrefixSpec)) seglogPrefixUptoCard

/-- THE SECOND FORM's CARD OF 'racewaylaw07.SeglogSynced'. -/
def seglogSyncedUptoCard : Claim7 := { stood := { row := seglogSyncedUptoRow, standIns := [], harness := (true, "81751b2e32d02f8d9ec49a9ea4ccc3595dcd49d218b71278f908dfea719f9856"), looks := false }, kinds := [], alts := [], laidByText := true, laidKinds := [.data], laidTests := true, laidLooks := .later }
def SeglogSyncedUptoCardSaid : Prop := Claim7.holds Tryd.pinned (.plain (OpenSpec.upto seglogSyncedSpec)) seglogSyncedUptoCard

/-- THE SECOND FORM's CARD OF 'racewaylaw07.SeglogDrops'. -/
def seglogDropsUptoCard : Claim7 := { stood := { row := seglogDropsUptoRow, standIns := [], harness := (true, "81751b2e32d02f8d9ec49a9ea4ccc3595dcd49d218b71278f908dfea719f9856"), looks := false }, kinds := [], alts := [], laidByText := true, laidKinds := [.data], laidTests := true, laidLooks := .later }
def SeglogDropsUptoCardSaid : Prop := Claim7.holds Tryd.pinned (.plain (OpenSpec.upto seglogDropsSpec)) seglogDropsUptoCard

/-- THE SECOND FORM's CARD OF 'racewaylaw07.SeglogSegments'. -/
def seglogSegmentsUptoCard : Claim7 := { stood := { row := seglogSegmentsUptoRow, standIns := [], harness := (true, "81751b2e32d02f8d9ec49a9ea4ccc3595dcd49d218b71278f908dfea719f9856"), looks := false }, kinds := [], alts := [], laidByText := true, laidKinds := [.data], laidTests := true, laidLooks := .later }
def SeglogSegmentsUptoCardSaid : Prop := Claim7.holds Tryd.pinned (.plain (OpenSpec.upto seglogSegmentsSpec)) seglogSegmentsUptoCard
end Rows
end Go.Proofs.YtjfbhchpgmimfaaDoor
