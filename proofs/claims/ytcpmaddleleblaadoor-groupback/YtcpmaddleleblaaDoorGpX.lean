/-
  What the laws' walks share: a block of seven cells into which all are stored; '.. = Few(g), few(a)'.
-/
import Derived.Test.YtcpmaddleleblaaDoorGpN
import Derived.Test.YtcpmaddleleblaaDoorGpG
namespace Go.Proofs.YtcpmaddleleblaaDoor.Gx
open Go.RowKit Kt Gf Gp Gr Gk Ga Gb Gg Gm Gn
set_option linter.unusedVariables false
set_option linter.unusedSimpArgs false
set_option maxRecDepth 20000

theorem sAll7 {w : World} {b : Nat} {a0 a1 a2 a3 a4 a5 a6 v0 v1 v2 v3 v4 v5 v6 : Value} {t : TypeId} (h : Bx w b #[a0, a1, a2, a3, a4, a5, a6] t) :
    Bx (((((((w.setCell ⟨b, 0, none⟩ v0).setCell ⟨b, 1, none⟩ v1).setCell ⟨b, 2, none⟩ v2).setCell ⟨b, 3, none⟩ v3).setCell ⟨b, 4, none⟩ v4).setCell ⟨b, 5, none⟩ v5).setCell ⟨b, 6, none⟩ v6) b #[v0, v1, v2, v3, v4, v5, v6] t ∧
    Fr (fun x => x = b) w (((((((w.setCell ⟨b, 0, none⟩ v0).setCell ⟨b, 1, none⟩ v1).setCell ⟨b, 2, none⟩ v2).setCell ⟨b, 3, none⟩ v3).setCell ⟨b, 4, none⟩ v4).setCell ⟨b, 5, none⟩ v5).setCell ⟨b, 6, none⟩ v6) := by
  have h0 : Bx _ b #[v0, a1, a2, a3, a4, a5, a6] t := h.set 0 v0
  have h1 : Bx _ b #[v0, v1, a2, a3, a4, a5, a6] t := h0.set 1 v1
  have h2 : Bx _ b #[v0, v1, v2, a3, a4, a5, a6] t := h1.set 2 v2
  have h3 : Bx _ b #[v0, v1, v2, v3, a4, a5, a6] t := h2.set 3 v3
  have h4 : Bx _ b #[v0, v1, v2, v3, v4, a5, a6] t := h3.set 4 v4
  have h5 : Bx _ b #[v0, v1, v2, v3, v4, v5, a6] t := h4.set 5 v5
  refine ⟨h5.set 6 v6, ?_⟩
  exact ((((((h.frset 0 v0).trans (h0.frset 1 v1) (fun i hi => .inl hi)).trans (h1.frset 2 v2) (fun i hi => .inl hi)).trans (h2.frset 3 v3) (fun i hi => .inl hi)).trans (h3.frset 4 v4) (fun i hi => .inl hi)).trans (h4.frset 5 v5) (fun i hi => .inl hi)).trans (h5.frset 6 v6) (fun i hi => .inl hi)
theorem seven {w : World} {b : Nat} {a0 a1 a2 a3 a4 a5 a6 : Value} {t : TypeId} (h : Bx w b #[a0, a1, a2, a3, a4, a5, a6] t) :
    w.cell? ⟨b, 0, none⟩ = some a0 ∧ w.cell? ⟨b, 1, none⟩ = some a1 ∧ w.cell? ⟨b, 2, none⟩ = some a2 ∧ w.cell? ⟨b, 3, none⟩ = some a3 ∧ w.cell? ⟨b, 4, none⟩ = some a4 ∧ w.cell? ⟨b, 5, none⟩ = some a5 ∧ w.cell? ⟨b, 6, none⟩ = some a6 :=
  ⟨h.cell 0 _ rfl, h.cell 1 _ rfl, h.cell 2 _ rfl, h.cell 3 _ rfl, h.cell 4 _ rfl, h.cell 5 _ rfl, h.cell 6 _ rfl⟩
theorem frz7 {w : World} {b : Nat} {cs : Array Value} {t : TypeId} (h : Bx w b cs t) :
    w.frozen? ⟨b, 0, none⟩ = false ∧ w.frozen? ⟨b, 1, none⟩ = false ∧ w.frozen? ⟨b, 2, none⟩ = false ∧ w.frozen? ⟨b, 3, none⟩ = false ∧ w.frozen? ⟨b, 4, none⟩ = false ∧ w.frozen? ⟨b, 5, none⟩ = false ∧ w.frozen? ⟨b, 6, none⟩ = false :=
  ⟨h.frozen 0, h.frozen 1, h.frozen 2, h.frozen 3, h.frozen 4, h.frozen 5, h.frozen 6⟩
/-- A group in a block, its lists as they are read. -/
structure Gin (w : World) (B : Nat) (g : G) (ka : Option Addr) (kc : Nat) (ma : Option Addr) (mc : Nat) : Prop where
  b : Bx w B (gC g ka kc ma mc) 25
  l : Gl w g ka kc ma mc
theorem Gin.below {w w' : World} {B : Nat} {g : G} {ka ma : Option Addr} {kc mc : Nat} (h : Gin w B g ka kc ma mc) (hb : Below w.heap.size w w') : Gin w' B g ka kc ma mc := ⟨h.b.bel hb, h.l.below hb⟩
theorem few_q (a : Q) : ∃ c0 c1 c2 c3 c4 c5 c6, fewQ a = ⟨c0, c1, c2, c3, c4, c5, c6⟩ ∧ (0 ≤ c0 ∧ c0 ≤ 1099511627776) ∧ (0 ≤ c1 ∧ c1 ≤ 1099511627776) ∧ (0 ≤ c2 ∧ c2 ≤ 1099511627776) ∧ (0 ≤ c3 ∧ c3 ≤ 1099511627776) ∧ (0 ≤ c4 ∧ c4 ≤ 1099511627776) ∧ c5.size ≤ 200 ∧ c6.size ≤ 40 :=
  ⟨_, _, _, _, _, _, _, rfl, nm_bd _, nm_bd _, nm_bd _, nm_bd _, nm_bd _, cutS_size _ _, cutS_size _ _⟩
theorem few_g (g : G) : ∃ n1 k1 m1 t1, fewG g = ⟨n1, k1, m1, t1⟩ ∧ OkG ⟨n1, k1, m1, t1⟩ ∧ k1.length ≤ 20 ∧ m1.length ≤ 50 :=
  ⟨_, _, _, _, rfl, ok_few g, (few_len g).1, (few_len g).2⟩
end Go.Proofs.YtcpmaddleleblaaDoor.Gx
