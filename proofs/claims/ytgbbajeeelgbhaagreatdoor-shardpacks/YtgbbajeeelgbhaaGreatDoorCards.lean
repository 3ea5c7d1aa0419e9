/-
  DERIVED. GIVEN WITH THE SEED: THE CARDS: each row of YtgbbajeeelgbhaaGreatDoorRows.lean that lists a variable, with what it lists TIED to the program's text (the seventh form; the later family's looks); each row that meets fmt, with fmt's text TOLD by the authors' own Lean function (tested against real Go, not proved from fmt's source: count such statements apart). THE CARD IS WHAT COUNTS. Prove the row's statement (the work); the ties are given (YtgbbajeeelgbhaaGreatDoorTie.lean); close each card by the builder's one call (the guide's Derived/Test/ToyasCard.lean, 'card_holds'). Laid BY PROGRAM, IN A SANDBOX (cutbox-door.mjs). By AI agents, Wed Nov 11 2026. No macro, syntax, notation, axiom, sorry.
-/
import Derived.Test.YtgbbajeeelgbhaaGreatDoorRows
import GoSem.ClaimSeven
namespace Go.Proofs.YtgbbajeeelgbhaaGreatDoor
namespace Rows

/-- THE TIED CARD OF 'racewaylaw14.ShardApplies'. -/
def shardAppliesCard : Claim7 := { stood := { row := shardAppliesRow, standIns := [], harness := (true, "e043602b302c37f8e8eba239991db55254a4f1970b6aa03a8ebd529231b6f768"), looks := true }, kinds := [], alts := [], laidByText := true, laidKinds := [.data], laidTests := true, laidLooks := .later }
def ShardAppliesCardSaid : Prop := Claim7.holds Tryz.pinned (.plain (OpenSpec.ofChange shardAppliesSpec)) shardAppliesCard

/-- THE TIED CARD OF 'racewaylaw14.ShardValues'. -/
def shardValuesCard : Claim7 := { stood := { row := shardValuesRow, standIns := [], harness := (true, "e043602b302c37f8e8eba239991db55254a4f1970b6aa03a8ebd529231b6f768"), looks := true }, kinds := [], alts := [], laidByText := true, laidKinds := [.data], laidTests := true, laidLooks := .later }
def ShardValuesCardSaid : Prop := Claim7.holds Tryz.pinned (.plain (OpenSpec.ofChange shardValuesSpec)) shardValuesCard

/-- THE TIED CARD OF 'racewaylaw14.ShardPacks'. -/
def shardPacksCard : Claim7 := { stood := { row := shardPacksRow, standIns := [], harness := (true, "e043602b302c37f8e8eba239991db55254a4f1970b6aa03a8ebd529231b6f768"), looks := true }, kinds := [], alts := [], laidByText := true, laidKinds := [.data], laidTests := true, laidLooks := .later }
def ShardPacksCardSaid : Prop := Claim7.holds Tryz.pinned (.plain (OpenSpec.ofChange shardPacksSpec)) shardPacksCard

/-- THE TIED CARD OF 'racewaylaw14.ShardNobody'. -/
def shardNobodyCard : Claim7 := { stood := { row := shardNobodyRow, standIns := [], harness := (true, "e043602b302c37f8e8eba239991db55254a4f1970b6aa03a8ebd529231b6f768"), looks := true }, kinds := [], alts := [], laidByText := true, laidKinds := [.data], laidTests := true, laidLooks := .later }
def ShardNobodyCardSaid : Prop := Claim7.holds Tryz.pinned (.plain (OpenSpec.ofChange shardNobodySpec)) shardNobodyCard

/-- THE TIED CARD OF 'racewaylaw14.ShardLoads'. -/
def shardLoadsCard : Claim7 := { stood := { row := shardLoadsRow, standIns := [], harness := (true, "e043602b302c37f8e8eba239991db55254a4f1970b6aa03a8ebd529231b6f768"), looks := true }, kinds := [], alts := [], laidByText := true, laidKinds := [.data], laidTests := true, laidLooks := .later }
def ShardLoadsCardSaid : Prop := Claim7.holds Tryz.pinned (.plain (OpenSpec.ofChange shardLoadsSpec)) shardLoadsCard

/-- THE TIED CARD OF 'racewaylaw14.ShardOnce'. -/
def shardOnceCard : Claim7 := { stood := { row := shardOnceRow, standIns := [], harness := (true, "e043602b302c37f8e8eba239991db55254a4f1970b6aa03a8ebd529231b6f768"), looks := true }, kinds := [], alts := [], laidByText := true, laidKinds := [.data], laidTests := true, laidLooks := .later }
def ShardOnceCardSaid : Prop := Claim7.holds Tryz.pinned (.plain (OpenSpec.ofChange shardOnceSpec)) shardOnceCard

/-- THE SECOND FORM's CARD OF 'racewaylaw14.ShardApplies'. -/
def shardAppliesUptoCard : Claim7 := { stood := { row := shardAppliesUptoRow, standIns := [], harness := (true, "e043602b302c37f8e8eba239991db55254a4f1970b6aa03a8ebd529231b6f768"), looks := true }, kinds := [], alts := [], laidByText := true, laidKinds := [.data], laidTests := true, laidLooks := .later }
def ShardAppliesUptoCardSaid : Prop := Claim7.holds Tryz.pinned (.plain (OpenSpec.upto shardAppliesSpec)) shardAppliesUptoCard

/-- THE SECOND FORM's CARD OF 'racewaylaw14.ShardValues'. -/
def shardValuesUptoCard : Claim7 := { stood := { row := shardValuesUptoRow, standIns := [], harness := (true, "e043602b302c37f8e8eba239991db55254a4f1970b6aa03a8ebd529231b6f768"), looks := true }, kinds := [], alts := [], laidByText := true, laidKinds := [.data], laidTests := true, laidLooks := .later }
def ShardValuesUptoCardSaid : Prop := Claim7.holds Tryz.pinned (.plain (OpenSpec.upto shardValuesSpec)) shardValuesUptoCard

/-- THE SECOND FORM's CARD OF 'racewaylaw14.ShardPacks'. -/
def shardPacksUptoCard : Claim7 := { stood := { row := shardPacksUptoRow, standIns := [], harness := (true, "e043602b302c37f8e8eba239991db55254a4f1970b6aa03a8ebd529231b6f768"), looks := true }, kinds := [], alts := [], laidByText := true, laidKinds := [.data], laidTests := true, laidLooks := .later }
def ShardPacksUptoCardSaid : Prop := Claim7.holds Tryz.pinned (.plain (OpenSpec.upto shardPacksSpec)) shardPacksUptoCard

/-- THE SECOND FORM's CARD OF 'racewaylaw14.ShardNobody'. -/
def shardNobodyUptoCard : Claim7 := { stood := { row := shardNobodyUptoRow, standIns := [], harness := (true, "e043602b302c37f8e8eba239991db55254a4f1970b6aa03a8ebd529231b6f768"), looks := true }, kinds := [], alts := [], laidByText := true, laidKinds := [.data], laidTests := true, laidLooks := .later }
def ShardNobodyUptoCardSaid : Prop := Claim7.holds Tryz.pinned (.plain (OpenSpec.upto shardNobodySpec)) shardNobodyUptoCard

/-- THE SECOND FORM's CARD OF 'racewaylaw14.ShardLoads'. -/
def shardLoadsUptoCard : Claim7 := { stood := { row := shardLoadsUptoRow, standIns := [], harness := (true, "e043602b302c37f8e8eba239991db55254a4f1970b6aa03a8ebd529231b6f768"), looks := true }, kinds := [], alts := [], laidByText := true, laidKinds := [.data], laidTests := true, laidLooks := .later }
def ShardLoadsUptoCardSaid : Prop := Claim7.holds Tryz.pinned (.plain (OpenSpec.upto shardLoadsSpec)) shardLoadsUptoCard

/-- THE SECOND FORM's CARD OF 'racewaylaw14.ShardOnce'. -/
def shardOnceUptoCard : Claim7 := { stood := { row := shardOnceUptoRow, standIns := [], harness := (true, "e043602b302c37f8e8eba239991db55254a4f1970b6aa03a8ebd529231b6f768"), looks := true }, kinds := [], alts := [], laidByText := true, laidKinds := [.data], laidTests := true, laidLooks := .later }
def ShardOnceUptoCardSaid : Prop := Claim7.holds Tryz.pinned (.plain (OpenSpec.upto shardOnceSpec)) shardOnceUptoCard
end Rows
end Go.Proofs.YtgbbajeeelgbhaaGreatDoor
