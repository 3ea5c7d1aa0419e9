/-
  checkReply of wire.
-/
import Derived.Test.YtenkgpfeifflnaaWiA2
import Derived.Test.YtenkgpfeifflnaaWiF
namespace Go.Proofs.Ytenkgpfeifflnaa.Wa
open Go.RowKit Kt Pl Wi Wk Wc Wd We Wx Wy Wf
open At (RowT)
set_option linter.unusedVariables false
set_option linter.unusedSimpArgs false
set_option maxRecDepth 20000

theorem rightR_all (r : Rp) : rightR r = ([r.err].all (upToB 255) && ([r.seq, r.n].all (upToB 1099511627776) && (r.got.all rightG && r.about.all fun x => mayB x.1 x.2))) := by simp [rightR, numB]
theorem shortR_all (r : Rp) : shortR r = (decide (r.got.length ≤ 1024) && (r.got.all shortG && (dataB r.data && decide (r.about.length ≤ 1024)))) := by simp [shortR, Bool.and_assoc]
theorem Pv_at (r : Rp) (ga : Option Addr) (gc : Nat) (da : Option Addr) (dc : Nat) (ra : Option Addr) (rc : Nat) : (Pv r ga gc da dc ra rc)[0]? = some (.int .i64 r.err) ∧ (Pv r ga gc da dc ra rc)[1]? = some (.int .i64 r.seq) ∧ (Pv r ga gc da dc ra rc)[2]? = some (.int .i64 r.n) ∧
    (Pv r ga gc da dc ra rc)[3]? = some (.slice ga r.got.length gc) ∧ (Pv r ga gc da dc ra rc)[4]? = some (.slice da r.data.length dc) ∧ (Pv r ga gc da dc ra rc)[5]? = some (.slice ra r.about.length rc) := ⟨rfl, rfl, rfl, rfl, rfl, rfl⟩
end Go.Proofs.Ytenkgpfeifflnaa.Wa
