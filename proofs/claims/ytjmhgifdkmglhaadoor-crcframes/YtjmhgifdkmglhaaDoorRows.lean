/-
  NARROWER THAN 'FOR EVERY INPUT', by the rows' own cells (each row's printed sentence says how): CrcSums: laid · CrcFrames: laid · CrcGood: laid · CrcLong: laid · CrcBack: laid · CrcBits: laid.
  DERIVED. THE GIVEN ROWS OF THIS SEAT. 6 by the template 'for every input the law returns true; each argument reads behind the call as it read before'; 0 by the template 'total and deterministic' (their statements: YtjmhgifdkmglhaaDoorTotals.lean).
  GIVEN WITH THE SEED: the statements are not yours to turn. If you find one false, say at which input.
  Laid BY PROGRAM, IN A SANDBOX (cutbox-rows.mjs): the forced cells as the released guide's own fill.sh prints them over the translation 38f30778d4bfa63e… (all of the seat's roots in one cut). By AI agents, Wed Nov 11 2026. No macro, syntax, notation, axiom, sorry.
-/
import Derived.Test.YtjmhgifdkmglhaaDoorChecked
import GoSem.Claim
import GoSem.ClaimJoined
import GoSem.ClaimMapViews
import Derived.JoinedTies
import Derived.KernelRfl
namespace Go.Proofs.YtjmhgifdkmglhaaDoor
/- THE CELL 'sum', in the pinned program and in every row, IS THE sha256 OF THE DUMP (.gsa) THAT YtjmhgifdkmglhaaDoorProg.lean LOADS. Nothing in Lean hashes anything: it is a label: what it is worth is what the hold of that sum in a sandbox is worth. -/
noncomputable def Tryd.pinned : Pinned := { name := "ytjmhgifdkmglhaadoor", sum := "38f30778d4bfa63e2f756c01a92871967da903634ad42a4c8b713f4dad6c9985", checked := Tryd.checked }
namespace Rows
def none {H : Type} : Left H := { results := [], args := [] }

/- WHAT THE LISTED PACKAGE-LEVEL VARIABLES READ AS WHEN THE CALL BEGINS. Each datum BY PROGRAM (the guide's laid-datum.mjs) off the statement by which the dump's own 'gosem.cut.vars' lays the variable. In a bare row this is a premise. The card (YtjmhgifdkmglhaaDoorCards.lean) ties it to the program's text. -/
def laid_raceway_crc_halfSums {H : Type} : DataW H := .agg [.lit (.int .u32 0), .lit (.int .u32 498536548), .lit (.int .u32 997073096), .lit (.int .u32 651767980), .lit (.int .u32 1994146192), .lit (.int .u32 1802195444), .lit (.int .u32 1303535960), .lit (.int .u32 1342533948), .lit (.int .u32 3988292384), .lit (.int .u32 4027552580), .lit (.int .u32 3604390888), .lit (.int .u32 3412177804), .lit (.int .u32 2607071920), .lit (.int .u32 2262029012), .lit (.int .u32 2685067896), .lit (.int .u32 3183342108)]

/-- 'racewaylaw02.CrcSums': WHATEVER THE INPUT: true; the input reads as it did. -/
def crcSumsSpec : ChangeSpec := { name := "crcSums", fn := fun _ => fun
  | [d1, d2] => { results := [.lit (.bool true)], args := [d1, d2] }
  | _ => none }
def crcSumsRow : OpenClaim := { program := "ytjmhgifdkmglhaadoor", sum := "38f30778d4bfa63e2f756c01a92871967da903634ad42a4c8b713f4dad6c9985", func := "raceway/racewaylaw02.CrcSums", spec := "crcSums", unfollowed := true, recurses := true, named := ["raceway/crc.halfSums"], apart := false, laid := [("raceway/crc.halfSums", laid_raceway_crc_halfSums)] }
def CrcSumsSaid : Prop := crcSumsRow.holds Tryd.pinned (OpenSpec.ofChange crcSumsSpec)

/-- ITS FALSE NEIGHBOUR: 'it returns false'. Refute it at one input. -/
def crcSumsWrong : ChangeSpec := { name := "crcSums", fn := fun _ => fun
  | [d1, d2] => { results := [.lit (.bool false)], args := [d1, d2] }
  | _ => none }
def CrcSumsWrongFalsely : Prop := crcSumsRow.holds Tryd.pinned (OpenSpec.ofChange crcSumsWrong)

/-- 'racewaylaw02.CrcFrames': WHATEVER THE INPUT: true; the input reads as it did. -/
def crcFramesSpec : ChangeSpec := { name := "crcFrames", fn := fun _ => fun
  | [d1, d2, d3] => { results := [.lit (.bool true)], args := [d1, d2, d3] }
  | _ => none }
def crcFramesRow : OpenClaim := { program := "ytjmhgifdkmglhaadoor", sum := "38f30778d4bfa63e2f756c01a92871967da903634ad42a4c8b713f4dad6c9985", func := "raceway/racewaylaw02.CrcFrames", spec := "crcFrames", unfollowed := true, recurses := true, named := ["raceway/crc.halfSums"], apart := false, laid := [("raceway/crc.halfSums", laid_raceway_crc_halfSums)] }
def CrcFramesSaid : Prop := crcFramesRow.holds Tryd.pinned (OpenSpec.ofChange crcFramesSpec)

/-- ITS FALSE NEIGHBOUR: 'it returns false'. Refute it at one input. -/
def crcFramesWrong : ChangeSpec := { name := "crcFrames", fn := fun _ => fun
  | [d1, d2, d3] => { results := [.lit (.bool false)], args := [d1, d2, d3] }
  | _ => none }
def CrcFramesWrongFalsely : Prop := crcFramesRow.holds Tryd.pinned (OpenSpec.ofChange crcFramesWrong)

/-- 'racewaylaw02.CrcGood': WHATEVER THE INPUT: true; the input reads as it did. -/
def crcGoodSpec : ChangeSpec := { name := "crcGood", fn := fun _ => fun
  | [d] => { results := [.lit (.bool true)], args := [d] }
  | _ => none }
def crcGoodRow : OpenClaim := { program := "ytjmhgifdkmglhaadoor", sum := "38f30778d4bfa63e2f756c01a92871967da903634ad42a4c8b713f4dad6c9985", func := "raceway/racewaylaw02.CrcGood", spec := "crcGood", unfollowed := true, recurses := true, named := ["raceway/crc.halfSums"], apart := false, laid := [("raceway/crc.halfSums", laid_raceway_crc_halfSums)] }
def CrcGoodSaid : Prop := crcGoodRow.holds Tryd.pinned (OpenSpec.ofChange crcGoodSpec)

/-- ITS FALSE NEIGHBOUR: 'it returns false'. Refute it at one input. -/
def crcGoodWrong : ChangeSpec := { name := "crcGood", fn := fun _ => fun
  | [d] => { results := [.lit (.bool false)], args := [d] }
  | _ => none }
def CrcGoodWrongFalsely : Prop := crcGoodRow.holds Tryd.pinned (OpenSpec.ofChange crcGoodWrong)

/-- 'racewaylaw02.CrcLong': WHATEVER THE INPUT: true; the input reads as it did. -/
def crcLongSpec : ChangeSpec := { name := "crcLong", fn := fun _ => fun
  | [d1, d2] => { results := [.lit (.bool true)], args := [d1, d2] }
  | _ => none }
def crcLongRow : OpenClaim := { program := "ytjmhgifdkmglhaadoor", sum := "38f30778d4bfa63e2f756c01a92871967da903634ad42a4c8b713f4dad6c9985", func := "raceway/racewaylaw02.CrcLong", spec := "crcLong", unfollowed := true, recurses := true, named := ["raceway/crc.halfSums"], apart := false, laid := [("raceway/crc.halfSums", laid_raceway_crc_halfSums)] }
def CrcLongSaid : Prop := crcLongRow.holds Tryd.pinned (OpenSpec.ofChange crcLongSpec)

/-- ITS FALSE NEIGHBOUR: 'it returns false'. Refute it at one input. -/
def crcLongWrong : ChangeSpec := { name := "crcLong", fn := fun _ => fun
  | [d1, d2] => { results := [.lit (.bool false)], args := [d1, d2] }
  | _ => none }
def CrcLongWrongFalsely : Prop := crcLongRow.holds Tryd.pinned (OpenSpec.ofChange crcLongWrong)

/-- 'racewaylaw02.CrcBack': WHATEVER THE INPUT: true; the input reads as it did. -/
def crcBackSpec : ChangeSpec := { name := "crcBack", fn := fun _ => fun
  | [d1, d2, d3] => { results := [.lit (.bool true)], args := [d1, d2, d3] }
  | _ => none }
def crcBackRow : OpenClaim := { program := "ytjmhgifdkmglhaadoor", sum := "38f30778d4bfa63e2f756c01a92871967da903634ad42a4c8b713f4dad6c9985", func := "raceway/racewaylaw02.CrcBack", spec := "crcBack", unfollowed := true, recurses := true, named := ["raceway/crc.halfSums"], apart := false, laid := [("raceway/crc.halfSums", laid_raceway_crc_halfSums)] }
def CrcBackSaid : Prop := crcBackRow.holds Tryd.pinned (OpenSpec.ofChange crcBackSpec)

/-- ITS FALSE NEIGHBOUR: 'it returns false'. Refute it at one input. -/
def crcBackWrong : ChangeSpec := { name := "crcBack", fn := fun _ => fun
  | [d1, d2, d3] => { results := [.lit (.bool false)], args := [d1, d2, d3] }
  | _ => none }
def CrcBackWrongFalsely : Prop := crcBackRow.holds Tryd.pinned (OpenSpec.ofChange crcBackWrong)

/-- 'racewaylaw02.CrcBits': WHATEVER THE INPUT: true; the input reads as it did. -/
def crcBitsSpec : ChangeSpec := { name := "crcBits", fn := fun _ => fun
  | [d1, d2] => { results := [.lit (.bool true)], args := [d1, d2] }
  | _ => none }
def crcBitsRow : OpenClaim := { program := "ytjmhgifdkmglhaadoor", sum := "38f30778d4bfa63e2f756c01a92871967da903634ad42a4c8b713f4dad6c9985", func := "raceway/racewaylaw02.CrcBits", spec := "crcBits", unfollowed := true, recurses := true, named := ["raceway/crc.halfSums"], apart := false, laid := [("raceway/crc.halfSums", laid_raceway_crc_halfSums)] }
def CrcBitsSaid : Prop := crcBitsRow.holds Tryd.pinned (OpenSpec.ofChange crcBitsSpec)

/-- ITS FALSE NEIGHBOUR: 'it returns false'. Refute it at one input. -/
def crcBitsWrong : ChangeSpec := { name := "crcBits", fn := fun _ => fun
  | [d1, d2] => { results := [.lit (.bool false)], args := [d1, d2] }
  | _ => none }
def CrcBitsWrongFalsely : Prop := crcBitsRow.holds Tryd.pinned (OpenSpec.ofChange crcBitsWrong)

/- THE SECOND FORM. 'bulk': how many values and letters a reading holds, each counted each time it is reached (what is shared counts as often as it is met; a slice's spare places count too). A statement '..UptoSaid' is the law's where the arguments, and the package variables that the reading takes, are together of bulk at most 1048576: NARROWER than '..Said'. Prove '..Said' where nothing that the law and all that it calls make is longer than what came in: it says more and counts as full. Else prove '..UptoSaid'. A law counts once. -/
mutual
def uptoBulk {H : Type} : DataW H → Nat
  | .lit (.string bytes) => bytes.length + 1
  | .lit _ => 1
  | .nil => 1
  | .ptr d => uptoBulk d + 1
  | .slice elems spare => uptoBulkAll elems + uptoBulkAll spare + 1
  | .agg parts => uptoBulkAll parts + 1
  | .iface _ d => uptoBulk d + 1
  | .map entries => uptoBulkEntries entries + 1
  | .held _ => 1
def uptoBulkAll {H : Type} : List (DataW H) → Nat
  | [] => 0
  | d :: r => uptoBulk d + uptoBulkAll r
def uptoBulkEntries {H : Type} : List (Lit × DataW H) → Nat
  | [] => 0
  | x :: r => uptoBulkEntry x + uptoBulkEntries r
def uptoBulkEntry {H : Type} : Lit × DataW H → Nat
  | (.string bytes, d) => bytes.length + uptoBulk d + 1
  | (_, d) => uptoBulk d + 1
 end
def uptoSmall : (H : Type) → List (DataW H) → Bool := fun _ ds => decide (uptoBulkAll ds ≤ 1048576)
def OpenSpec.upto (s : _root_.Go.ChangeSpec) : _root_.Go.OpenSpec := { _root_.Go.OpenSpec.ofChange s with cond := some uptoSmall }

/-- 'racewaylaw02.CrcSums', WHERE WHAT IT READS IS OF BULK AT MOST 1048576: true; the input reads as it did. -/
def crcSumsUptoRow : OpenClaim := { program := "ytjmhgifdkmglhaadoor", sum := "38f30778d4bfa63e2f756c01a92871967da903634ad42a4c8b713f4dad6c9985", func := "raceway/racewaylaw02.CrcSums", spec := "crcSums", unfollowed := true, recurses := true, named := ["raceway/crc.halfSums"], apart := false, laid := [("raceway/crc.halfSums", laid_raceway_crc_halfSums)], narrowed := true }
def CrcSumsUptoSaid : Prop := crcSumsUptoRow.holds Tryd.pinned (OpenSpec.upto crcSumsSpec)

/-- 'racewaylaw02.CrcFrames', WHERE WHAT IT READS IS OF BULK AT MOST 1048576: true; the input reads as it did. -/
def crcFramesUptoRow : OpenClaim := { program := "ytjmhgifdkmglhaadoor", sum := "38f30778d4bfa63e2f756c01a92871967da903634ad42a4c8b713f4dad6c9985", func := "raceway/racewaylaw02.CrcFrames", spec := "crcFrames", unfollowed := true, recurses := true, named := ["raceway/crc.halfSums"], apart := false, laid := [("raceway/crc.halfSums", laid_raceway_crc_halfSums)], narrowed := true }
def CrcFramesUptoSaid : Prop := crcFramesUptoRow.holds Tryd.pinned (OpenSpec.upto crcFramesSpec)

/-- 'racewaylaw02.CrcGood', WHERE WHAT IT READS IS OF BULK AT MOST 1048576: true; the input reads as it did. -/
def crcGoodUptoRow : OpenClaim := { program := "ytjmhgifdkmglhaadoor", sum := "38f30778d4bfa63e2f756c01a92871967da903634ad42a4c8b713f4dad6c9985", func := "raceway/racewaylaw02.CrcGood", spec := "crcGood", unfollowed := true, recurses := true, named := ["raceway/crc.halfSums"], apart := false, laid := [("raceway/crc.halfSums", laid_raceway_crc_halfSums)], narrowed := true }
def CrcGoodUptoSaid : Prop := crcGoodUptoRow.holds Tryd.pinned (OpenSpec.upto crcGoodSpec)

/-- 'racewaylaw02.CrcLong', WHERE WHAT IT READS IS OF BULK AT MOST 1048576: true; the input reads as it did. -/
def crcLongUptoRow : OpenClaim := { program := "ytjmhgifdkmglhaadoor", sum := "38f30778d4bfa63e2f756c01a92871967da903634ad42a4c8b713f4dad6c9985", func := "raceway/racewaylaw02.CrcLong", spec := "crcLong", unfollowed := true, recurses := true, named := ["raceway/crc.halfSums"], apart := false, laid := [("raceway/crc.halfSums", laid_raceway_crc_halfSums)], narrowed := true }
def CrcLongUptoSaid : Prop := crcLongUptoRow.holds Tryd.pinned (OpenSpec.upto crcLongSpec)

/-- 'racewaylaw02.CrcBack', WHERE WHAT IT READS IS OF BULK AT MOST 1048576: true; the input reads as it did. -/
def crcBackUptoRow : OpenClaim := { program := "ytjmhgifdkmglhaadoor", sum := "38f30778d4bfa63e2f756c01a92871967da903634ad42a4c8b713f4dad6c9985", func := "raceway/racewaylaw02.CrcBack", spec := "crcBack", unfollowed := true, recurses := true, named := ["raceway/crc.halfSums"], apart := false, laid := [("raceway/crc.halfSums", laid_raceway_crc_halfSums)], narrowed := true }
def CrcBackUptoSaid : Prop := crcBackUptoRow.holds Tryd.pinned (OpenSpec.upto crcBackSpec)

/-- 'racewaylaw02.CrcBits', WHERE WHAT IT READS IS OF BULK AT MOST 1048576: true; the input reads as it did. -/
def crcBitsUptoRow : OpenClaim := { program := "ytjmhgifdkmglhaadoor", sum := "38f30778d4bfa63e2f756c01a92871967da903634ad42a4c8b713f4dad6c9985", func := "raceway/racewaylaw02.CrcBits", spec := "crcBits", unfollowed := true, recurses := true, named := ["raceway/crc.halfSums"], apart := false, laid := [("raceway/crc.halfSums", laid_raceway_crc_halfSums)], narrowed := true }
def CrcBitsUptoSaid : Prop := crcBitsUptoRow.holds Tryd.pinned (OpenSpec.upto crcBitsSpec)

end Rows
end Go.Proofs.YtjmhgifdkmglhaaDoor
