/-
  The writer of wire: receipt.
-/
import Derived.Test.YtenkgpfeifflnaaWiW
import Derived.Test.YtenkgpfeifflnaaWiR
namespace Go.Proofs.Ytenkgpfeifflnaa.Wv
open Go.RowKit Kt Pl Wi Wk Ww Wx
open At (RowT okT)
set_option linter.unusedVariables false
set_option linter.unusedSimpArgs false
set_option maxRecDepth 20000

def dstR : Nat → Nat := fun i => if i = 0 then 5 else if i = 3 then 8 else if i = 4 then 9 else if i = 7 then 12 else if i = 8 then 13 else if i = 13 then 18 else if i = 14 then 19 else 4
def consR : Nat → Nat := fun i => if i = 0 then 4 else if i = 3 then 4 else if i = 4 then 8 else if i = 7 then 8 else if i = 8 then 14 else if i = 13 then 14 else if i = 14 then 15 else 99
def depsR : Nat → List Nat := fun i => if i = 4 then [0, 3] else if i = 8 then [4, 7] else if i = 14 then [8, 13] else if i = 15 then [14] else []
def isWR : Nat → Bool := fun i => i == 0 || i == 4 || i == 8 || i == 14 || i == 15
/-- A row of numbers, of texts, that was built. -/
def BI (l : List Int) (v : Value) (w : World) : Prop := ∃ b, v = .slice (some ⟨b, 0, none⟩) l.length l.length ∧ Bx w b (Wk.I l).toArray 3
def BT (l : List Bs) (v : Value) (w : World) : Prop := ∃ b, v = .slice (some ⟨b, 0, none⟩) l.length l.length ∧ Bx w b (T l).toArray 9
theorem BI.gr {l : List Int} {v : Value} {w w' : World} (h : BI l v w) (hg : Gr w w') : BI l v w' := by obtain ⟨b, e, hb⟩ := h; exact ⟨b, e, hb.gr hg⟩
theorem BT.gr {l : List Bs} {v : Value} {w w' : World} (h : BT l v w) (hg : Gr w w') : BT l v w' := by obtain ⟨b, e, hb⟩ := h; exact ⟨b, e, hb.gr hg⟩
theorem BI.u8 {l : List Int} {v : Value} {w w' : World} (h : BI l v w) (hg : U8 w w') : BI l v w' := by obtain ⟨b, e, hb⟩ := h; exact ⟨b, e, Ww.Bx.u8 hb (by decide) hg⟩
theorem BT.u8 {l : List Bs} {v : Value} {w w' : World} (h : BT l v w) (hg : U8 w w') : BT l v w' := by obtain ⟨b, e, hb⟩ := h; exact ⟨b, e, Ww.Bx.u8 hb (by decide) hg⟩
def FR (base : Nat) (bs : Bs) (r : Rcp) : Nat → Value → World → Prop := fun i v w =>
  if i = 0 then Wt w base v bs else if i = 3 then BI [r.q] v w else if i = 4 then Wt w base v (bs ++ encN r.q) else if i = 7 then BT [r.g] v w
  else if i = 8 then Wt w base v (bs ++ encN r.q ++ encText r.g) else if i = 13 then BI [r.s, r.c] v w else Wt w base v (bs ++ encN r.q ++ encText r.g ++ (encN r.s ++ encN r.c))
/-- What holds all along: the box, and what is kept. -/
def SR (w0 : World) (base b0 : Nat) (C : Array Value) (t : TypeId) (w : World) : Prop := Bx w b0 C t ∧ Below base w0 w ∧ U8 w0 w
theorem SR.gr {w0 : World} {base b0 : Nat} {C : Array Value} {t : TypeId} {w w' : World} (h : SR w0 base b0 C t w) (hb : base ≤ w0.heap.size) (hg : Gr w w') : SR w0 base b0 C t w' :=
  ⟨h.1.gr hg, h.2.1.trans (below_down hg.below (Nat.le_trans hb h.2.1.size)), h.2.2.trans (U8.ofGr hg)⟩
theorem SR.wrote {w0 : World} {base b0 : Nat} {C : Array Value} {t : TypeId} {w w' : World} (h : SR w0 base b0 C t w) (ht : t ≠ 5) (hb : Below base w w') (hu : U8 w w') : SR w0 base b0 C t w' :=
  ⟨Ww.Bx.u8 h.1 ht hu, h.2.1.trans hb, h.2.2.trans hu⟩

theorem hmf : ∀ (fn : Fn) (first cap : Array Value) (w : World), (Instr.makeFunc fn first cap).run Try.prog w = .ok (.func fn first cap) w := fun _ _ _ _ => rfl
end Go.Proofs.Ytenkgpfeifflnaa.Wv
