/-
  ReadCmd of wire.
-/
import Derived.Test.YtjboldahmndkeaaWiU2
namespace Go.Proofs.Ytjboldahmndkeaa.Wu
open Go.RowKit Kt Pl Wi Wk Wf Wfw Wq Wy Wx
open At (RowT)
set_option linter.unusedVariables false
set_option linter.unusedSimpArgs false
set_option maxRecDepth 20000

/-- What ReadCmd tells. -/
def RdC (w : World) (bs : Bs) (e : Ending) (w' : World) : Prop := Below w.heap.size w w' ∧
  ((∃ c ao cap, readCm bs = .ok c ∧ e = .returned (.tuple #[.agg (Cv c (.slice ao c.data.length cap)), .int .i64 0]) ∧ RowT w' ao c.data ∧ (∀ a, ao = some a → w.heap.size ≤ a.block) ∧ c.data.length ≤ 1024)
   ∨ (∃ er : Nat, readCm bs = .error er ∧ er ≠ 0 ∧ e = .returned (.tuple #[.agg Zc, .int .i64 er])))
theorem results_ct {fn : Func} {p q : Tmp} {t : TypeId} (h : fn.results = #[.cell p t, .tmp q]) (tmps : Array Value) (P : Program) (w : World) {b : Addr} {x y : Value}
    (hp : tmps.getD p undef = .pointer (some b)) (hq : tmps.getD q undef = y) (hx : (loadVar t b).run P w = .ok x w) :
    (results fn tmps).run P w = .ok (.tuple #[x, y]) w := by
  have hp' : tmps[p]?.getD undef = .pointer (some b) := by simpa using hp
  have hq' : tmps[q]?.getD undef = y := by simpa using hq
  simp only [results, h]
  simp [Sem.run_bind, Result.andThen, hp', hq', asAddr, hx]
theorem row_lt {w : World} {ao : Option Addr} {bs : Bs} (h : Row w ao bs) : 0 < bs.length → ∀ a, ao = some a → a.block < w.heap.size := by
  intro hl a ha
  obtain ⟨b, off, rfl, hc⟩ := h hl
  have := World.block_lt_of_cell? w _ (hc 0 hl)
  simp at ha; subst ha; exact this

set_option maxHeartbeats 8000000 in
theorem readCmd_any (w : World) (ao : Option Addr) (cap : Nat) (bs : Bs) (hr : Row w ao bs) (hlen : bs.length ≤ 1000000000) (hcap : bs.length ≤ cap) (h63 : cap ≤ 9223372036854775807) :
    Calls Try.prog 19 #[.slice ao bs.length cap] w fun e w' => RdC w bs e w' := by
  have hmf := hmf
  have hlt := row_lt hr
  go_enter Try.func19, Try.ntmps19
  go_wp2_with fail
  refine startZ2 (zs := Zc) (fun W0 hZ hY hG hsz => ?_)
  have hst : Rst W0 (w.heap.size + 1) bs := ⟨ao, cap, hY, hr.below hG.below, hcap, h63, fun h a ha => by have := hlt h a ha; omega⟩
  have H := whole_any W0 (w.heap.size + 1) bs hst hlen
  have HZ := mkH hZ
  have HG := mkH hG
  clear hst hr hlt hY hZ hG
  refine H.mono ?_
  rintro e W1 ⟨ho1, hc1⟩
  have HB1 := mkH (Wq.Bx.on HZ.out (by omega) ho1)
  have HO1 := mkH (HG.out.below.trans (ho1.below (B := w.heap.size) (by omega) (by omega)))
  clear H HZ HG ho1
  rcases hc1 with ⟨c, ao', cap', hp, rfl, hrt, hlo, hdl⟩ | ⟨er, hp, her, rfl⟩
  · have H1 := mkH (Cv_one c ao' c.data.length cap')
    have HP := mkH hp
    have HRT := mkH (Wk.RowT.setRow hrt (g := w.heap.size) (fun a ha => by have := hlo a ha; omega) (Cv c (.slice ao' c.data.length cap')))
    have HL := mkH hlo
    have HD := mkH hdl
    clear hp hrt hlo hdl
    go_wp2_with (refine wpList_st rfl rfl rfl rfl HB1.out (cs := Cv c (.slice ao' c.data.length cap')) infoC rfl H1.out ?_)
    refine bodyPost_ret (results_ct rfl _ _ _ rfl rfl (load_cm (HB1.out.row rfl))) rfl ⟨below_setRow HO1.out (Nat.le_refl _) _, .inl ⟨c, ao', cap', HP.out, rfl, HRT.out, fun a ha => by have := HL.out a ha; omega, HD.out⟩⟩
  · have HP := mkH hp
    clear hp
    go_wp2_with (refine wpList_st rfl rfl rfl rfl HB1.out (cs := Zc) infoZ rfl Zc_one ?_)
    refine bodyPost_ret (results_ct rfl _ _ _ rfl rfl (load_bx (HB1.out.row rfl) Try.underlying28 rfl infoZ)) rfl ⟨below_setRow HO1.out (Nat.le_refl _) _, .inr ⟨er, HP.out, her, rfl⟩⟩
end Go.Proofs.Ytjboldahmndkeaa.Wu
