/-
  NARROWER THAN 'FOR EVERY INPUT', by the rows' own cells (each row's printed sentence says how): SeglogPlays: laid · SeglogNobody: laid · SeglogPrefix: laid · SeglogSynced: laid · SeglogDrops: laid · SeglogSegments: laid.
  DERIVED. THE GIVEN ROWS OF THIS SEAT. 6 by the template 'for every input the law returns true; each argument reads behind the call as it read before'; 0 by the template 'total and deterministic' (their statements: YtjfbhchpgmimfaaDoorTotals.lean).
  GIVEN WITH THE SEED: the statements are not yours to turn. If you find one false, say at which input.
  Laid BY PROGRAM, IN A SANDBOX (cutbox-rows.mjs): the forced cells as the released guide's own fill.sh prints them over the translation 47e12ecc4733d4a8… (all of the seat's roots in one cut). By AI agents, Wed Nov 11 2026. No macro, syntax, notation, axiom, sorry.
-/
import Derived.Test.YtjfbhchpgmimfaaDoorChecked
import GoSem.Claim
import GoSem.ClaimJoined
import GoSem.ClaimMapViews
import Derived.JoinedTies
import Derived.KernelRfl
namespace Go.Proofs.YtjfbhchpgmimfaaDoor
/- THE CELL 'sum', in the pinned program and in every row, IS THE sha256 OF THE DUMP (.gsa) THAT YtjfbhchpgmimfaaDoorProg.lean LOADS. Nothing in Lean hashes anything: it is a label: what it is worth is what the hold of that sum in a sandbox is worth. -/
noncomputable def Tryd.pinned : Pinned := { name := "ytjfbhchpgmimfaadoor", sum := "47e12ecc4733d4a8c499f43ff95b1ec8e39f58a3692269c8f58b607547b8aee6", checked := Tryd.checked }
namespace Rows
def none {H : Type} : Left H := { results := [], args := [] }

/- WHAT THE LISTED PACKAGE-LEVEL VARIABLES READ AS WHEN THE CALL BEGINS. Each datum BY PROGRAM (the guide's laid-datum.mjs) off the statement by which the dump's own 'gosem.cut.vars' lays the variable. In a bare row this is a premise. The card (YtjfbhchpgmimfaaDoorCards.lean) ties it to the program's text. -/
def laid_raceway_crc_halfSums {H : Type} : DataW H := .agg [.lit (.int .u32 0), .lit (.int .u32 498536548), .lit (.int .u32 997073096), .lit (.int .u32 651767980), .lit (.int .u32 1994146192), .lit (.int .u32 1802195444), .lit (.int .u32 1303535960), .lit (.int .u32 1342533948), .lit (.int .u32 3988292384), .lit (.int .u32 4027552580), .lit (.int .u32 3604390888), .lit (.int .u32 3412177804), .lit (.int .u32 2607071920), .lit (.int .u32 2262029012), .lit (.int .u32 2685067896), .lit (.int .u32 3183342108)]

/-- 'racewaylaw07.SeglogPlays': WHATEVER THE INPUT: true; the input reads as it did. -/
def seglogPlaysSpec : ChangeSpec := { name := "seglogPlays", fn := fun _ => fun
  | [d1, d2] => { results := [.lit (.bool true)], args := [d1, d2] }
  | _ => none }
def seglogPlaysRow : OpenClaim := { program := "ytjfbhchpgmimfaadoor", sum := "47e12ecc4733d4a8c499f43ff95b1ec8e39f58a3692269c8f58b607547b8aee6", func := "raceway/racewaylaw07.SeglogPlays", spec := "seglogPlays", unfollowed := true, recurses := true, named := ["raceway/crc.halfSums"], apart := false, laid := [("raceway/crc.halfSums", laid_raceway_crc_halfSums)] }
def SeglogPlaysSaid : Prop := seglogPlaysRow.holds Tryd.pinned (OpenSpec.ofChange seglogPlaysSpec)

/-- ITS FALSE NEIGHBOUR: 'it returns false'. Refute it at one input. -/
def seglogPlaysWrong : ChangeSpec := { name := "seglogPlays", fn := fun _ => fun
  | [d1, d2] => { results := [.lit (.bool false)], args := [d1, d2] }
  | _ => none }
def SeglogPlaysWrongFalsely : Prop := seglogPlaysRow.holds Tryd.pinned (OpenSpec.ofChange seglogPlaysWrong)

/-- 'racewaylaw07.SeglogNobody': WHATEVER THE INPUT: true; the input reads as it did. -/
def seglogNobodySpec : ChangeSpec := { name := "seglogNobody", fn := fun _ => fun
  | [d1, d2] => { results := [.lit (.bool true)], args := [d1, d2] }
  | _ => none }
def seglogNobodyRow : OpenClaim := { program := "ytjfbhchpgmimfaadoor", sum := "47e12ecc4733d4a8c499f43ff95b1ec8e39f58a3692269c8f58b607547b8aee6", func := "raceway/racewaylaw07.SeglogNobody", spec := "seglogNobody", unfollowed := true, recurses := true, named := ["raceway/crc.halfSums"], apart := false, laid := [("raceway/crc.halfSums", laid_raceway_crc_halfSums)] }
def SeglogNobodySaid : Prop := seglogNobodyRow.holds Tryd.pinned (OpenSpec.ofChange seglogNobodySpec)

/-- ITS FALSE NEIGHBOUR: 'it returns false'. Refute it at one input. -/
def seglogNobodyWrong : ChangeSpec := { name := "seglogNobody", fn := fun _ => fun
  | [d1, d2] => { results := [.lit (.bool false)], args := [d1, d2] }
  | _ => none }
def SeglogNobodyWrongFalsely : Prop := seglogNobodyRow.holds Tryd.pinned (OpenSpec.ofChange seglogNobodyWrong)

/-- 'racewaylaw07.SeglogPrefix': WHATEVER THE INPUT: true; the input reads as it did. -/
def seglogPrefixSpec : ChangeSpec := { name := "seglogPrefix", fn := fun _ => fun
  | [d1, d2, d3] => { results := [.lit (.bool true)], args := [d1, d2, d3] }
  | _ => none }
def seglogPrefixRow : OpenClaim := { program := "ytjfbhchpgmimfaadoor", sum := "47e12ecc4733d4a8c499f43ff95b1ec8e39f58a3692269c8f58b607547b8aee6", func := "raceway/racewaylaw07.SeglogPrefix", spec := "seglogPrefix", unfollowed := true, recurses := true, named := ["raceway/crc.halfSums"], apart := false, laid := [("raceway/crc.halfSums", laid_raceway_crc_halfSums)] }
def SeglogPrefixSaid : Prop := seglogPrefixRow.holds Tryd.pinned (OpenSpec.ofChange seglogPrefixSpec)

/-- ITS FALSE NEIGHBOUR: 'it returns false'. Refute it at one input. -/
def seglogPrefixWrong : ChangeSpec := { name := "seglogPrefix", fn := fun _ => fun
  | [d1, d2, d3] => { results := [.lit (.bool false)], args := [d1, d2, d3] }
  | _ => none }
def SeglogPrefixWrongFalsely : Prop := seglogPrefixRow.holds Tryd.pinned (OpenSpec.ofChange seglogPrefixWrong)

/-- 'racewaylaw07.SeglogSynced': WHATEVER THE INPUT: true; the input reads as it did. -/
def seglogSyncedSpec : ChangeSpec := { name := "seglogSynced", fn := fun _ => fun
  | [d1, d2, d3] => { results := [.lit (.bool true)], args := [d1, d2, d3] }
  | _ => none }
def seglogSyncedRow : OpenClaim := { program := "ytjfbhchpgmimfaadoor", sum := "47e12ecc4733d4a8c499f43ff95b1ec8e39f58a3692269c8f58b607547b8aee6", func := "raceway/racewaylaw07.SeglogSynced", spec := "seglogSynced", unfollowed := true, recurses := true, named := ["raceway/crc.halfSums"], apart := false, laid := [("raceway/crc.halfSums", laid_raceway_crc_halfSums)] }
def SeglogSyncedSaid : Prop := seglogSyncedRow.holds Tryd.pinned (OpenSpec.ofChange seglogSyncedSpec)

/-- ITS FALSE NEIGHBOUR: 'it returns false'. Refute it at one input. -/
def seglogSyncedWrong : ChangeSpec := { name := "seglogSynced", fn := fun _ => fun
  | [d1, d2, d3] => { results := [.lit (.bool false)], args := [d1, d2, d3] }
  | _ => none }
def SeglogSyncedWrongFalsely : Prop := seglogSyncedRow.holds Tryd.pinned (OpenSpec.ofChange seglogSyncedWrong)

/-- 'racewaylaw07.SeglogDrops': WHATEVER THE INPUT: true; the input reads as it did. -/
def seglogDropsSpec : ChangeSpec := { name := "seglogDrops", fn := fun _ => fun
  | [d1, d2, d3] => { results := [.lit (.bool true)], args := [d1, d2, d3] }
  | _ => none }
def seglogDropsRow : OpenClaim := { program := "ytjfbhchpgmimfaadoor", sum := "47e12ecc4733d4a8c499f43ff95b1ec8e39f58a3692269c8f58b607547b8aee6", func := "raceway/racewaylaw07.SeglogDrops", spec := "seglogDrops", unfollowed := true, recurses := true, named := ["raceway/crc.halfSums"], apart := false, laid := [("raceway/crc.halfSums", laid_raceway_crc_halfSums)] }
def SeglogDropsSaid : Prop := seglogDropsRow.holds Tryd.pinned (OpenSpec.ofChange seglogDropsSpec)

/-- ITS FALSE NEIGHBOUR: 'it returns false'. Refute it at one input. -/
def seglogDropsWrong : ChangeSpec := { name := "seglogDrops", fn := fun _ => fun
  | [d1, d2, d3] => { results := [.lit (.bool false)], args := [d1, d2, d3] }
  | _ => none }
def SeglogDropsWrongFalsely : Prop := seglogDropsRow.holds Tryd.pinned (OpenSpec.ofChange seglogDropsWrong)

/-- 'racewaylaw07.SeglogSegments': WHATEVER THE INPUT: true; the input reads as it did. -/
def seglogSegmentsSpec : ChangeSpec := { name := "seglogSegments", fn := fun _ => fun
  | [d1, d2] => { results := [.lit (.bool true)], args := [d1, d2] }
  | _ => none }
def seglogSegmentsRow : OpenClaim := { program := "ytjfbhchpgmimfaadoor", sum := "47e12ecc4733d4a8c499f43ff95b1ec8e39f58a3692269c8f58b607547b8aee6", func := "raceway/racewaylaw07.SeglogSegments", spec := "seglogSegments", unfollowed := true, recurses := true, named := ["raceway/crc.halfSums"], apart := false, laid := [("raceway/crc.halfSums", laid_raceway_crc_halfSums)] }
def SeglogSegmentsSaid : Prop := seglogSegmentsRow.holds Tryd.pinned (OpenSpec.ofChange seglogSegmentsSpec)

/-- ITS FALSE NEIGHBOUR: 'it returns false'. Refute it at one input. -/
def seglogSegmentsWrong : ChangeSpec := { name := "seglogSegments", fn := fun _ => fun
  | [d1, d2] => { results := [.lit (.bool false)], args := [d1, d2] }
  | _ => none }
def SeglogSegmentsWrongFalsely : Prop := seglogSegmentsRow.holds Tryd.pinned (OpenSpec.ofChange seglogSegmentsWrong)

/- THE SECOND FORM. 'bulk': how many values and letters a reading holds, each counted each time it is reached (what is shared counts as often as it is met; a slice's spare places count too). A statement '..UptoSaid' is the law's where the arguments, and the package variables that the reading takes, are together of bulk at most 1048576: NARROWER than '..Said'. Prove '..Said' where nothing that the law and all that it calls make is longer than what came in: it says more and counts as full. Else prove '..UptoSaid'. A law counts once. -/
mutual
def uptoBulk {H : Type} : DataW H → Nat
  | .lit (.string bytes) => bytes.length + 1
  | .lit _ => 1
  | .nil => 1
  | .ptr d => uptoBulk d + 1
  | .slice elems spare => uptoBulkAll elems + uptoBulkAll spare + 1
  | .agg parts => uptoBulkAll parts + 1
  | .iface _ d => uptoBulk d + 1
  | .map entries => uptoBulkEntries entries + 1
  | .held _ => 1
def uptoBulkAll {H : Type} : List (DataW H) → Nat
  | [] => 0
  | d :: r => uptoBulk d + uptoBulkAll r
def uptoBulkEntries {H : Type} : List (Lit × DataW H) → Nat
  | [] => 0
  | x :: r => uptoBulkEntry x + uptoBulkEntries r
def uptoBulkEntry {H : Type} : Lit × DataW H → Nat
  | (.string bytes, d) => bytes.length + uptoBulk d + 1
  | (_, d) => uptoBulk d + 1
 end
def uptoSmall : (H : Type) → List (DataW H) → Bool := fun _ ds => decide (uptoBulkAll ds ≤ 1048576)
def OpenSpec.upto (s : _root_.Go.ChangeSpec) : _root_.Go.OpenSpec := { _root_.Go.OpenSpec.ofChange s with cond := some uptoSmall }

/-- 'racewaylaw07.SeglogPlays', WHERE WHAT IT READS IS OF BULK AT MOST 1048576: true; the input reads as it did. -/
def seglogPlaysUptoRow : OpenClaim := { program := "ytjfbhchpgmimfaadoor", sum := "47e12ecc4733d4a8c499f43ff95b1ec8e39f58a3692269c8f58b607547b8aee6", func := "raceway/racewaylaw07.SeglogPlays", spec := "seglogPlays", unfollowed := true, recurses := true, named := ["raceway/crc.halfSums"], apart := false, laid := [("raceway/crc.halfSums", laid_raceway_crc_halfSums)], narrowed := true }
def SeglogPlaysUptoSaid : Prop := seglogPlaysUptoRow.holds Tryd.pinned (OpenSpec.upto seglogPlaysSpec)

/-- 'racewaylaw07.SeglogNobody', WHERE WHAT IT READS IS OF BULK AT MOST 1048576: true; the input reads as it did. -/
def seglogNobodyUptoRow : OpenClaim := { program := "ytjfbhchpgmimfaadoor", sum := "47e12ecc4733d4a8c499f43ff95b1ec8e39f58a3692269c8f58b607547b8aee6", func := "raceway/racewaylaw07.SeglogNobody", spec := "seglogNobody", unfollowed := true, recurses := true, named := ["raceway/crc.halfSums"], apart := false, laid := [("raceway/crc.halfSums", laid_raceway_crc_halfSums)], narrowed := true }
def SeglogNobodyUptoSaid : Prop := seglogNobodyUptoRow.holds Tryd.pinned (OpenSpec.upto seglogNobodySpec)

/-- 'racewaylaw07.SeglogPrefix', WHERE WHAT IT READS IS OF BULK AT MOST 1048576: true; the input reads as it did. -/
def seglogPrefixUptoRow : OpenClaim := { program := "ytjfbhchpgmimfaadoor", sum := "47e12ecc4733d4a8c499f43ff95b1ec8e39f58a3692269c8f58b607547b8aee6", func := "raceway/racewaylaw07.SeglogPrefix", spec := "seglogPrefix", unfollowed := true, recurses := true, named := ["raceway/crc.halfSums"], apart := false, laid := [("raceway/crc.halfSums", laid_raceway_crc_halfSums)], narrowed := true }
def SeglogPrefixUptoSaid : Prop := seglogPrefixUptoRow.holds Tryd.pinned (OpenSpec.upto seglogPrefixSpec)

/-- 'racewaylaw07.SeglogSynced', WHERE WHAT IT READS IS OF BULK AT MOST 1048576: true; the input reads as it did. -/
def seglogSyncedUptoRow : OpenClaim := { program := "ytjfbhchpgmimfaadoor", sum := "47e12ecc4733d4a8c499f43ff95b1ec8e39f58a3692269c8f58b607547b8aee6", func := "raceway/racewaylaw07.SeglogSynced", spec := "seglogSynced", unfollowed := true, recurses := true, named := ["raceway/crc.halfSums"], apart := false, laid := [("raceway/crc.halfSums", laid_raceway_crc_halfSums)], narrowed := true }
def SeglogSyncedUptoSaid : Prop := seglogSyncedUptoRow.holds Tryd.pinned (OpenSpec.upto seglogSyncedSpec)

/-- 'racewaylaw07.SeglogDrops', WHERE WHAT IT READS IS OF BULK AT MOST 1048576: true; the input reads as it did. -/
def seglogDropsUptoRow : OpenClaim := { program := "ytjfbhchpgmimfaadoor", sum := "47e12ecc4733d4a8c499f43ff95b1ec8e39f58a3692269c8f58b607547b8aee6", func := "raceway/racewaylaw07.SeglogDrops", spec := "seglogDrops", unfollowed := true, recurses := true, named := ["raceway/crc.halfSums"], apart := false, laid := [("raceway/crc.halfSums", laid_raceway_crc_halfSums)], narrowed := true }
def SeglogDropsUptoSaid : Prop := seglogDropsUptoRow.holds Tryd.pinned (OpenSpec.upto seglogDropsSpec)

/-- 'racewaylaw07.SeglogSegments', WHERE WHAT IT READS IS OF BULK AT MOST 1048576: true; the input reads as it did. -/
def seglogSegmentsUptoRow : OpenClaim := { program := "ytjfbhchpgmimfaadoor", sum := "47e12ecc4733d4a8c499f43ff95b1ec8e39f58a3692269c8f58b607547b8aee6", func := "raceway/racewaylaw07.SeglogSegments", spec := "seglogSegments", unfollowed := true, recurses := true, named := ["raceway/crc.halfSums"], apart := false, laid := [("raceway/crc.halfSums", laid_raceway_crc_halfSums)], narrowed := true }
def SeglogSegmentsUptoSaid : Prop := seglogSegmentsUptoRow.holds Tryd.pinned (OpenSpec.upto seglogSegmentsSpec)

end Rows
end Go.Proofs.YtjfbhchpgmimfaaDoor
