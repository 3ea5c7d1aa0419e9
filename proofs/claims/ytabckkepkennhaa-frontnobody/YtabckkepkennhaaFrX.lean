/-
  A client's Tick that asks for a step of entries.
-/
import Derived.Test.YtabckkepkennhaaFrQ
namespace Go.Proofs.Ytabckkepkennhaa.Fx
open Go.RowKit Kt Gf Gk Fp Fa Fb Fc Fe Fl Go.Proofs.Ytabckkepkennhaa.Fn Fq Ft
open Nr (RowS)
open Cr (RdP)
open Cp (Pc ofL)
open Go.Proofs.Ytabckkepkennhaa.Nm (Mc)
set_option linter.unusedVariables false
set_option linter.unusedSimpArgs false
set_option maxRecDepth 20000

/-- The asker behind the question for a step. -/
def asE (a : As) (s : Ks) (x : En) (g : Int) : As := { a with group := g, c := { cmE s x with client := a.id, num := a.c.num + 1 }, asks := true, sent := true, waited := 0 }
set_option maxHeartbeats 2000000 in
theorem Tick_begin {w : World} {B m n : Nat} {L : Int → Int} {a : As} {s : Ks} (h : Bx w B (Xc (kl s) a (.map (some m))) 57) (hm : Mc w m n L) (hb : s.busy = true) (hw : s.wants = false) (hsh : ofSh s.kind = false) (ha : a.asks = false) (hid : 1 ≤ a.id ∧ a.id ≤ 1099511627776) (hnu : 0 ≤ a.c.num ∧ a.c.num ≤ 1000000) {ao ra po : Option Addr} {cap rn rc pc : Nat} {es : List En} {ps : List Pc} (he : s.ent = .slice ao es.length cap) (hr : s.reps = .slice ra rn rc) (hpc : s.pcs = .slice po ps.length pc) (hrow : RowS 7 cE w ao es) (hps : RdP w po pc ps) {x : En} (hx : es[rn]? = some x) (hl : es.length ≤ 1000000000) (hpl : ps.length ≤ 100000)
    (hz : x.g.size ≤ 9223372036854775807 ∧ x.rg.size ≤ 9223372036854775807) (hgr : 0 ≤ ofL ps (plE s.kind x) ∧ ofL ps (plE s.kind x) ≤ 6) :
    Calls Try.prog 9 #[.pointer (some ⟨B, 0, none⟩)] w fun e w' => Pk1 w e w' (pK (-a.id) (L (ofL ps (plE s.kind x))) (ofL ps (plE s.kind x)) { cmE s x with client := a.id, num := a.c.num + 1 }) ∧
      Tn w B (Xc (kl s) (asE a s x (ofL ps (plE s.kind x))) (.map (some m))) 57 w' := by
  have c38 : w.cell? ⟨B, 38, none⟩ = some (.bool s.wants) := h.cell 38 _ rfl
  rw [hw] at c38
  have hbu := BusyC_any h
  rw [hb] at hbu
  have HBU := mkH hbu
  have hab := Busy_any h
  rw [ha] at hab
  have HAB := mkH hab
  have HBE := mkH (begin_ent h hsh ha hnu he hr hpc hrow hps hx hl hpl hz hgr)
  have HM := mkH hm
  have HNB := mkH (hm.ne h)
  generalize ofL ps (plE s.kind x) = g at *
  have HI := mkH hid
  have HG := mkH hgr
  clear h hbu hb hw hab hm hrow hps hz hgr hid
  go_enter Try.func9, Try.ntmps9
  go_wp2_with (first
    | (refine HBU.out.mono ?_; rintro e w2 ⟨rfl, rfl⟩)
    | (refine HAB.out.mono ?_; rintro e w3 ⟨rfl, rfl⟩)
    | (refine HBE.out.mono ?_; rintro e w4 ⟨rfl, hT⟩; have HT := mkH hT; have HM4 := mkH (HM.out.fr hT.2 (fun q => HNB.out q.symm)); clear hT)
    | (refine (Tick_first HT.out.1 HM4.out rfl rfl HI.out HG.out).mono ?_; rintro e w5 ⟨⟨b5, rfl, l5, hx5⟩, hT5⟩; have HP5 := mkH (And.intro l5 hx5); have HT5 := mkH hT5; clear hT5 l5 hx5))
  go_ret
  exact ⟨⟨b5, rfl, Nat.le_trans HT.out.2.size HP5.out.1, HP5.out.2⟩, HT5.out.1, HT.out.2.trans HT5.out.2 (fun i hi => .inl hi)⟩
end Go.Proofs.Ytabckkepkennhaa.Fx
