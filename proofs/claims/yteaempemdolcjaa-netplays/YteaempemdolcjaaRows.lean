/-
  No cell of these rows narrows 'for every input' (looked for: loops, veiled, ifaces, maps, wideKeys, modest, calm, conditions, laid).
  DERIVED. THE GIVEN ROWS OF THIS SEAT. 5 by the template 'for every input the law returns true; each argument reads behind the call as it read before'; 0 by the template 'total and deterministic' (their statements: YteaempemdolcjaaTotals.lean).
  GIVEN WITH THE SEED: the statements are not yours to turn. If you find one false, say at which input.
  Laid BY PROGRAM, IN A SANDBOX (cutbox-rows.mjs): the forced cells as the released guide's own fill.sh prints them over the translation 39138bd6cc3fcfdc… (all of the seat's roots in one cut). By AI agents, Wed Nov 11 2026. No macro, syntax, notation, axiom, sorry.
-/
import Derived.Test.YteaempemdolcjaaChecked
import GoSem.Claim
import GoSem.ClaimJoined
import GoSem.ClaimMapViews
import Derived.JoinedTies
import Derived.KernelRfl
namespace Go.Proofs.Yteaempemdolcjaa
/- THE CELL 'sum', in the pinned program and in every row, IS THE sha256 OF THE DUMP (.gsa) THAT YteaempemdolcjaaProg.lean LOADS. Nothing in Lean hashes anything: it is a label: what it is worth is what the hold of that sum in a sandbox is worth. -/
noncomputable def Try.pinned : Pinned := { name := "yteaempemdolcjaa", sum := "39138bd6cc3fcfdc88e03b994273ca871c7cc37d3fb09f7fc2f01a285994c0c7", checked := Try.checked }
namespace Rows
def none {H : Type} : Left H := { results := [], args := [] }

/-- 'racewaylaw16.NetPlays': WHATEVER THE INPUT: true; the input reads as it did. -/
def netPlaysSpec : ChangeSpec := { name := "netPlays", fn := fun _ => fun
  | [d] => { results := [.lit (.bool true)], args := [d] }
  | _ => none }
def netPlaysRow : OpenClaim := { program := "yteaempemdolcjaa", sum := "39138bd6cc3fcfdc88e03b994273ca871c7cc37d3fb09f7fc2f01a285994c0c7", func := "raceway/racewaylaw16.NetPlays", spec := "netPlays", unfollowed := true, recurses := true, apart := false }
def NetPlaysSaid : Prop := netPlaysRow.holds Try.pinned (OpenSpec.ofChange netPlaysSpec)

/-- ITS FALSE NEIGHBOUR: 'it returns false'. Refute it at one input. -/
def netPlaysWrong : ChangeSpec := { name := "netPlays", fn := fun _ => fun
  | [d] => { results := [.lit (.bool false)], args := [d] }
  | _ => none }
def NetPlaysWrongFalsely : Prop := netPlaysRow.holds Try.pinned (OpenSpec.ofChange netPlaysWrong)

/-- 'racewaylaw16.NetAt': WHATEVER THE INPUT: true; the input reads as it did. -/
def netAtSpec : ChangeSpec := { name := "netAt", fn := fun _ => fun
  | [d1, d2] => { results := [.lit (.bool true)], args := [d1, d2] }
  | _ => none }
def netAtRow : OpenClaim := { program := "yteaempemdolcjaa", sum := "39138bd6cc3fcfdc88e03b994273ca871c7cc37d3fb09f7fc2f01a285994c0c7", func := "raceway/racewaylaw16.NetAt", spec := "netAt", apart := false }
def NetAtSaid : Prop := netAtRow.holds Try.pinned (OpenSpec.ofChange netAtSpec)

/-- ITS FALSE NEIGHBOUR: 'it returns false'. Refute it at one input. -/
def netAtWrong : ChangeSpec := { name := "netAt", fn := fun _ => fun
  | [d1, d2] => { results := [.lit (.bool false)], args := [d1, d2] }
  | _ => none }
def NetAtWrongFalsely : Prop := netAtRow.holds Try.pinned (OpenSpec.ofChange netAtWrong)

/-- 'racewaylaw16.NetKeeps': WHATEVER THE INPUT: true; the input reads as it did. -/
def netKeepsSpec : ChangeSpec := { name := "netKeeps", fn := fun _ => fun
  | [d1, d2] => { results := [.lit (.bool true)], args := [d1, d2] }
  | _ => none }
def netKeepsRow : OpenClaim := { program := "yteaempemdolcjaa", sum := "39138bd6cc3fcfdc88e03b994273ca871c7cc37d3fb09f7fc2f01a285994c0c7", func := "raceway/racewaylaw16.NetKeeps", spec := "netKeeps", apart := false }
def NetKeepsSaid : Prop := netKeepsRow.holds Try.pinned (OpenSpec.ofChange netKeepsSpec)

/-- ITS FALSE NEIGHBOUR: 'it returns false'. Refute it at one input. -/
def netKeepsWrong : ChangeSpec := { name := "netKeeps", fn := fun _ => fun
  | [d1, d2] => { results := [.lit (.bool false)], args := [d1, d2] }
  | _ => none }
def NetKeepsWrongFalsely : Prop := netKeepsRow.holds Try.pinned (OpenSpec.ofChange netKeepsWrong)

/-- 'racewaylaw16.NetOrder': WHATEVER THE INPUT: true; the input reads as it did. -/
def netOrderSpec : ChangeSpec := { name := "netOrder", fn := fun _ => fun
  | [d1, d2] => { results := [.lit (.bool true)], args := [d1, d2] }
  | _ => none }
def netOrderRow : OpenClaim := { program := "yteaempemdolcjaa", sum := "39138bd6cc3fcfdc88e03b994273ca871c7cc37d3fb09f7fc2f01a285994c0c7", func := "raceway/racewaylaw16.NetOrder", spec := "netOrder", unfollowed := true, recurses := true, apart := false }
def NetOrderSaid : Prop := netOrderRow.holds Try.pinned (OpenSpec.ofChange netOrderSpec)

/-- ITS FALSE NEIGHBOUR: 'it returns false'. Refute it at one input. -/
def netOrderWrong : ChangeSpec := { name := "netOrder", fn := fun _ => fun
  | [d1, d2] => { results := [.lit (.bool false)], args := [d1, d2] }
  | _ => none }
def NetOrderWrongFalsely : Prop := netOrderRow.holds Try.pinned (OpenSpec.ofChange netOrderWrong)

/-- 'racewaylaw16.NetStops': WHATEVER THE INPUT: true; the input reads as it did. -/
def netStopsSpec : ChangeSpec := { name := "netStops", fn := fun _ => fun
  | [d1, d2] => { results := [.lit (.bool true)], args := [d1, d2] }
  | _ => none }
def netStopsRow : OpenClaim := { program := "yteaempemdolcjaa", sum := "39138bd6cc3fcfdc88e03b994273ca871c7cc37d3fb09f7fc2f01a285994c0c7", func := "raceway/racewaylaw16.NetStops", spec := "netStops", unfollowed := true, recurses := true, apart := false }
def NetStopsSaid : Prop := netStopsRow.holds Try.pinned (OpenSpec.ofChange netStopsSpec)

/-- ITS FALSE NEIGHBOUR: 'it returns false'. Refute it at one input. -/
def netStopsWrong : ChangeSpec := { name := "netStops", fn := fun _ => fun
  | [d1, d2] => { results := [.lit (.bool false)], args := [d1, d2] }
  | _ => none }
def NetStopsWrongFalsely : Prop := netStopsRow.holds Try.pinned (OpenSpec.ofChange netStopsWrong)

/- THE SECOND FORM. 'bulk': how many values and letters a reading holds, each counted each time it is reached (what is shared counts as often as it is met; a slice's spare places count too). A statement '..UptoSaid' is the law's where the arguments, and the package variables that the reading takes, are together of bulk at most 1048576: NARROWER than '..Said'. Prove '..Said' where nothing that the law and all that it calls make is longer than what came in: it says more and counts as full. Else prove '..UptoSaid'. A law counts once. -/
mutual
def uptoBulk {H : Type} : DataW H → Nat
  | .lit (.string bytes) => bytes.length + 1
  | .lit _ => 1
  | .nil => 1
  | .ptr d => uptoBulk d + 1
  | .slice elems spare => uptoBulkAll elems + uptoBulkAll spare + 1
  | .agg parts => uptoBulkAll parts + 1
  | .iface _ d => uptoBulk d + 1
  | .map entries => uptoBulkEntries entries + 1
  | .held _ => 1
def uptoBulkAll {H : Type} : List (DataW H) → Nat
  | [] => 0
  | d :: r => uptoBulk d + uptoBulkAll r
def uptoBulkEntries {H : Type} : List (Lit × DataW H) → Nat
  | [] => 0
  | x :: r => uptoBulkEntry x + uptoBulkEntries r
def uptoBulkEntry {H : Type} : Lit × DataW H → Nat
  | (.string bytes, d) => bytes.length + uptoBulk d + 1
  | (_, d) => uptoBulk d + 1
 end
def uptoSmall : (H : Type) → List (DataW H) → Bool := fun _ ds => decide (uptoBulkAll ds ≤ 1048576)
def OpenSpec.upto (s : _root_.Go.ChangeSpec) : _root_.Go.OpenSpec := { _root_.Go.OpenSpec.ofChange s with cond := some uptoSmall }

/-- 'racewaylaw16.NetPlays', WHERE WHAT IT READS IS OF BULK AT MOST 1048576: true; the input reads as it did. -/
def netPlaysUptoRow : OpenClaim := { program := "yteaempemdolcjaa", sum := "39138bd6cc3fcfdc88e03b994273ca871c7cc37d3fb09f7fc2f01a285994c0c7", func := "raceway/racewaylaw16.NetPlays", spec := "netPlays", unfollowed := true, recurses := true, apart := false, narrowed := true }
def NetPlaysUptoSaid : Prop := netPlaysUptoRow.holds Try.pinned (OpenSpec.upto netPlaysSpec)

/-- 'racewaylaw16.NetAt', WHERE WHAT IT READS IS OF BULK AT MOST 1048576: true; the input reads as it did. -/
def netAtUptoRow : OpenClaim := { program := "yteaempemdolcjaa", sum := "39138bd6cc3fcfdc88e03b994273ca871c7cc37d3fb09f7fc2f01a285994c0c7", func := "raceway/racewaylaw16.NetAt", spec := "netAt", apart := false, narrowed := true }
def NetAtUptoSaid : Prop := netAtUptoRow.holds Try.pinned (OpenSpec.upto netAtSpec)

/-- 'racewaylaw16.NetKeeps', WHERE WHAT IT READS IS OF BULK AT MOST 1048576: true; the input reads as it did. -/
def netKeepsUptoRow : OpenClaim := { program := "yteaempemdolcjaa", sum := "39138bd6cc3fcfdc88e03b994273ca871c7cc37d3fb09f7fc2f01a285994c0c7", func := "raceway/racewaylaw16.NetKeeps", spec := "netKeeps", apart := false, narrowed := true }
def NetKeepsUptoSaid : Prop := netKeepsUptoRow.holds Try.pinned (OpenSpec.upto netKeepsSpec)

/-- 'racewaylaw16.NetOrder', WHERE WHAT IT READS IS OF BULK AT MOST 1048576: true; the input reads as it did. -/
def netOrderUptoRow : OpenClaim := { program := "yteaempemdolcjaa", sum := "39138bd6cc3fcfdc88e03b994273ca871c7cc37d3fb09f7fc2f01a285994c0c7", func := "raceway/racewaylaw16.NetOrder", spec := "netOrder", unfollowed := true, recurses := true, apart := false, narrowed := true }
def NetOrderUptoSaid : Prop := netOrderUptoRow.holds Try.pinned (OpenSpec.upto netOrderSpec)

/-- 'racewaylaw16.NetStops', WHERE WHAT IT READS IS OF BULK AT MOST 1048576: true; the input reads as it did. -/
def netStopsUptoRow : OpenClaim := { program := "yteaempemdolcjaa", sum := "39138bd6cc3fcfdc88e03b994273ca871c7cc37d3fb09f7fc2f01a285994c0c7", func := "raceway/racewaylaw16.NetStops", spec := "netStops", unfollowed := true, recurses := true, apart := false, narrowed := true }
def NetStopsUptoSaid : Prop := netStopsUptoRow.holds Try.pinned (OpenSpec.upto netStopsSpec)

end Rows
end Go.Proofs.Yteaempemdolcjaa
