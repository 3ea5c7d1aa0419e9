/-
  A client's Recv: of a chart, of a reply.
-/
import Derived.Test.YtabckkepkennhaaFrH
import Derived.Test.YtabckkepkennhaaFrJ
namespace Go.Proofs.Ytabckkepkennhaa.Fu
open Go.RowKit Kt Gf Gk Fp Fa Fb Fc Fr1 Fo Fv Fj Fh
open Cr (RdP)
open Cp (Pc mayC)
set_option linter.unusedVariables false
set_option linter.unusedSimpArgs false
set_option maxRecDepth 20000

set_option maxHeartbeats 1000000 in
theorem Recv_chart {w : World} {B m : Nat} {a : As} {s : Ks} (h : Bx w B (Xc (kl s) a (.map (some m))) 57) (hw : s.wants = true) (hid : 1 ≤ a.id ∧ a.id ≤ 1099511627776) (ha : a.asks = false) {pv : Array Value} {g cl nu er sq n ce : Int} {got dat abt : Value} {po : Option Addr} {pc : Nat} {ps : List Pc} (hp : Pv pv 5 (-a.id) g cl nu er sq n got dat abt ce (.slice po ps.length pc)) (hps : RdP w po pc ps) (hpl : ps.length ≤ 100000) (hmay : mayC ce ps = true) (hge : s.ep ≤ ce) (hbt : s.busy = true) :
    Calls Try.prog 10 #[.pointer (some ⟨B, 0, none⟩), .agg pv] w fun x w' => x = .returned (.slice none 0 0) ∧ ∃ po' pc', RdP w' po' pc' ps ∧ Tn w B (Xc (kl { s with ep := ce, pcs := .slice po' ps.length pc', wants := false }) a (.map (some m))) 57 w' := by
  obtain ⟨V, hV⟩ : ∃ V, V = w.alloc (.cells pv 42) := ⟨_, rfl⟩
  have HB := mkH (show Below w.heap.size w V by rw [hV]; exact (Below.refl _ w).alloc (Nat.le_refl _) _)
  have HXB := mkH (show Bx V w.heap.size pv 42 by rw [hV]; exact Bx.new _ _ _)
  have hX := h.bel HB.out
  have x0 : V.cell? ⟨w.heap.size, 0, none⟩ = some (.int .i64 5) := HXB.out.cell 0 _ hp.p0
  have HM := mkH (isMadeC_any hX)
  have HC := mkH (hearChart_take hX hw hid ha hp (hps.below HB.out) hpl hmay hge hbt)
  have HPS := mkH hp.sz
  have HV := mkH hV
  clear h hX hp hps hV hw ha hbt hge hmay
  go_enter Try.func10, Try.ntmps10
  go_upto_region 2 with fail
  rw [show w.alloc (.cells pv 42) = V from HV.out.symm]
  go_wp2_with (first
    | (refine HM.out.mono ?_; rintro e w2 ⟨rfl, rfl⟩)
    | (refine Gk.wpList_ld (ty := 42) (x := .tmp 3) (p := ⟨w.heap.size, 0, none⟩) (v := .agg pv) rfl rfl rfl (load_pk HXB.out HPS.out) ?_)
    | (refine HC.out.mono ?_; rintro e w3 ⟨rfl, po', pc', hr, hT⟩; have HR := mkH hr; have HT := mkH hT; clear hr hT))
  go_ret
  exact ⟨rfl, po', pc', HR.out, HT.out.1, (Fr.ofBelow (F := fun q => q = B) HB.out).trans HT.out.2 (fun i hi => .inl hi)⟩
set_option maxHeartbeats 1000000 in
theorem Recv_reply {w : World} {B m : Nat} {a : As} {s : Ks} (h : Bx w B (Xc (kl s) a (.map (some m))) 57) (hb : s.busy = true) (hsh : ofSh s.kind = false) (ha : a.asks = true) (hid : 1 ≤ a.id ∧ a.id ≤ 1099511627776) {pv : Array Value} {tt g cl nu er sq n ce : Int} {cp : Value} (hp : Pv pv 3 tt g cl nu er sq n (.slice none 0 0) (.slice none 0 0) (.slice none 0 0) ce cp) (hans : ansB a 3 tt g cl nu = true) (he15 : er ≠ 15) (he14 : er ≠ 14)
    {ao ra : Option Addr} {ne cap rn rc base : Nat} {rs : List (Int × Int × Int)} (he : s.ent = .slice ao ne cap) (hr : s.reps = .slice ra rn rc) (hrow : w.ownsRow base 37 6 (.slice ra rn rc) rn (Nr.Fl cP rs)) (hrn : rs.length = rn) (hrl : rn ≤ 1000000) (hba : base ≤ w.heap.size) :
    Calls Try.prog 10 #[.pointer (some ⟨B, 0, none⟩), .agg pv] w fun x w' => x = .returned (.slice none 0 0) ∧ ∃ ra' rc', w'.ownsRow base 37 6 (.slice ra' (rn + 1) rc') (rn + 1) (Nr.Fl cP (rs ++ [(er, sq, n)])) ∧
      Bx w' B (Xc (kl { s with reps := .slice ra' (rn + 1) rc', busy := !decide (ne ≤ rn + 1) }) { a with asks := false } (.map (some m))) 57 ∧ Fr (fun q => q = B ∨ (Value.slice ra rn rc).ownBlock = some q) w w' := by
  obtain ⟨V, hV⟩ : ∃ V, V = w.alloc (.cells pv 42) := ⟨_, rfl⟩
  have HB := mkH (show Below w.heap.size w V by rw [hV]; exact (Below.refl _ w).alloc (Nat.le_refl _) _)
  have HXB := mkH (show Bx V w.heap.size pv 42 by rw [hV]; exact Bx.new _ _ _)
  have hX := h.bel HB.out
  have x0 : V.cell? ⟨w.heap.size, 0, none⟩ = some (.int .i64 3) := HXB.out.cell 0 _ hp.p0
  have HM := mkH (isMadeC_any hX)
  have HC := mkH (hearReply_ans hX hb hsh ha hid hp hans he15 he14 he hr (Nr.own_below hrow HB.out) hrn hrl (Nat.le_trans hba HB.out.size))
  have HPS := mkH hp.sz
  have HV := mkH hV
  clear h hX hp hrow hV hb ha he15 he14 hans hsh
  go_enter Try.func10, Try.ntmps10
  go_upto_region 2 with fail
  rw [show w.alloc (.cells pv 42) = V from HV.out.symm]
  go_wp2_with (first
    | (refine HM.out.mono ?_; rintro e w2 ⟨rfl, rfl⟩)
    | (refine Gk.wpList_ld (ty := 42) (x := .tmp 3) (p := ⟨w.heap.size, 0, none⟩) (v := .agg pv) rfl rfl rfl (load_pk HXB.out HPS.out) ?_)
    | (refine HC.out.mono ?_; rintro e w3 ⟨rfl, ra', rc', hr', hX', hF'⟩; have HF := mkH hF'; have HR := mkH hr'; have HT := mkH hX'; clear hr' hX' hF'))
  go_ret
  exact ⟨rfl, ra', rc', HR.out, HT.out, (Fr.ofBelow HB.out).trans HF.out (fun i hi => .inl hi)⟩
end Go.Proofs.Ytabckkepkennhaa.Fu
