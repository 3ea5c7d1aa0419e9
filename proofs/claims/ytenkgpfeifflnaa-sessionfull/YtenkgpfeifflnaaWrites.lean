/-
  The contracts of the functions that write: clone, addNum, Num, addCount, addText, Text.
-/
import Derived.Test.YtenkgpfeifflnaaRows
import Derived.Test.YtenkgpfeifflnaaPlain
import Derived.Test.YtenkgpfeifflnaaKit
namespace Go.Proofs.Ytenkgpfeifflnaa.Wr
open Go.RowKit Kt Pl
set_option linter.unusedVariables false

theorem info5 : (Try.prog.info? 5).map (fun i => (i.zero, i.size, i.bytes)) = some (some (.int .u8 0), 1, 1) := by kernel_rfl

theorem byteCells_U (s : ByteArray) : byteCells s = U s.data.toList := rfl
end Go.Proofs.Ytenkgpfeifflnaa.Wr
