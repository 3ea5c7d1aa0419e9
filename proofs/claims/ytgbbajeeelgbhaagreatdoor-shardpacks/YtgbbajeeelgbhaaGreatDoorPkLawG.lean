/-
  Closed facts of the row of ShardPacks.
-/
import Derived.Test.YtgbbajeeelgbhaaGreatDoorRows
import Derived.Test.YtgbbajeeelgbhaaGreatDoorCards
import Derived.JoinedOf
import Derived.ProofKit
import Derived.SevenTiedAt
namespace Go.Proofs.YtgbbajeeelgbhaaGreatDoor.shardPacks
open Go.RowKit
set_option maxRecDepth 100000
theorem goes : false = Rows.shardPacksRow.goesBy Tryz.prog := by kernel_rfl
end Go.Proofs.YtgbbajeeelgbhaaGreatDoor.shardPacks
