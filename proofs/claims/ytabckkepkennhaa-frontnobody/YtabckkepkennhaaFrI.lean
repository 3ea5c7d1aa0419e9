/-
  A chart's clone: of its pieces, of itself.
-/
import Derived.Test.YtabckkepkennhaaFrX
import Derived.Test.YtabckkepkennhaaChB
namespace Go.Proofs.Ytabckkepkennhaa.Fi
open Go.RowKit Pl Cp Gf Gk
open Cr hiding some_of
open Kt
set_option linter.unusedVariables false
set_option linter.unusedSimpArgs false
set_option maxRecDepth 20000

set_option maxHeartbeats 1000000 in
theorem cloneP_any (w : World) (a : Option Addr) (c : Nat) (ps : List Pc) (h : RdP w a c ps) (hl : ps.length ≤ 1000000000) :
    Calls Try.prog 53 #[.slice a ps.length c] w fun x w' => ∃ a' c', x = .returned (.slice a' ps.length c') ∧ OwP w' w.heap.size a' c' ps ∧ Below w.heap.size w w' := by
  cases a with
  | none =>
    have h0 : ps = [] := by
      rcases Nat.eq_zero_or_pos ps.length with h1 | h1
      · exact List.eq_nil_of_length_eq_zero h1
      · obtain ⟨b, off, e, _⟩ := h.r h1; cases e
    subst h0
    have hq := Nr.eql_nil (P := Try.prog) w 38 97 none 0 c Try.underlying38
    simp only [Option.isNone] at hq
    clear h
    go_enter Try.func53, Try.ntmps53
    go_wp2
    go_ret
    exact ⟨none, 0, rfl, OwP.mk (by simpa [Fp, Fl] using World.ownsRow_nil w _ _ _), Below.refl _ _⟩
  | some a =>
    have hq := Nr.eql_nil (P := Try.prog) w 38 97 (some a) ps.length c Try.underlying38
    simp only [Option.isNone] at hq
    have hbz : ps.length * 24 ≤ 140737488355328 := by omega
    have HS := mkH (srcP (h.below ((Below.refl w.heap.size w).alloc (Nat.le_refl _) (.cells #[] 97))).r c)
    clear h
    go_enter Try.func53, Try.ntmps53
    go_wp2_with (at_builtin; refine (wpList_append_own_src _ rfl (.tmp 5) (.tmp 6) 38 38 rfl w.heap.size 97 _ 3 24 Try.underlying38 infoP rfl (by decide) _ 0 [] rfl (World.ownsRow_made w #[] 0 (Nat.le_refl _) (Nat.zero_le _) rfl) _ ps.length (Fp ps) rfl HS.out ?h632 ?hby2 ?hbs2 ?_))
    case h632 => unfold maxLen; omega
    case hby2 => omega
    case hbs2 => simp
    intro v2 w2 hown2 hgrow2
    have hbel := below_own (World.ownsRow_made (e := 97) (size := 3) w #[] 0 (Nat.le_refl _) (Nat.zero_le _) rfl) hgrow2 ((Below.refl w.heap.size w).alloc (Nat.le_refl _) (.cells #[] 97)) (by simp)
    have hown3 : w2.ownsRow w.heap.size 97 3 v2 ps.length (Fp ps) := by simpa using hown2
    clear hown2 hgrow2 HS
    obtain ⟨a', c', rfl⟩ := own_form hown3
    go_wp2
    go_ret
    exact ⟨a', c', rfl, OwP.mk hown3, hbel⟩


theorem infoCh : (Try.prog.info? 40).map (·.size) = some 2 := by kernel_rfl
theorem load_ch {w : World} {b : Nat} {e : Int} {v : Value} {t : TypeId} (h : Bx w b #[.int .i64 e, v] t) : (loadVar 40 ⟨b, 0, none⟩).run Try.prog w = .ok (.agg #[.int .i64 e, v]) w := Fp.load_bx (P := Try.prog) h Try.underlying40 rfl infoCh
set_option maxHeartbeats 1000000 in
theorem ownChart_any (w : World) (e : Int) (a : Option Addr) (c : Nat) (ps : List Pc) (hr : RdP w a c ps) (hl : ps.length ≤ 1000000000) :
    Calls Try.prog 35 #[.agg #[.int .i64 e, .slice a ps.length c]] w fun x w' => ∃ a' c', x = .returned (.agg #[.int .i64 e, .slice a' ps.length c']) ∧ RdP w' a' c' ps ∧ Below w.heap.size w w' ∧ ∀ x, a' = some x → w.heap.size ≤ x.block := by
  obtain ⟨V, hV⟩ : ∃ V, V = (w.alloc (.cells #[.int .i64 e, .slice a ps.length c] 40)).alloc (.cells #[.int .i64 0, .slice none 0 0] 40) := ⟨_, rfl⟩
  have hb1 : Below w.heap.size w V := by rw [hV]; exact ((Below.refl _ w).alloc (Nat.le_refl _) _).alloc (by simp) _
  have hx1 : Bx V w.heap.size #[.int .i64 e, .slice a ps.length c] 40 := by rw [hV]; exact (Bx.new _ _ _).alloc _
  have hx2 : Bx V (w.heap.size + 1) #[.int .i64 0, .slice none 0 0] 40 := by rw [hV]; exact Bx.new1 _ _ _ _
  have c1 : V.cell? ⟨w.heap.size, 1, none⟩ = some (.slice a ps.length c) := hx1.cell 1 _ rfl
  have HCL := mkH (cloneP_any V a c ps (hr.below hb1) hl)
  have HX1 := mkH hx1
  have HX2 := mkH hx2
  have HB := mkH hb1
  have HV := mkH hV
  clear hx1 hx2 hb1 hV hr
  go_enter Try.func35, Try.ntmps35
  go_upto_region 1 with fail
  change Code.wp _ _ _ _ ((w.alloc (.cells #[.int .i64 e, .slice a ps.length c] 40)).alloc (.cells #[.int .i64 0, .slice none 0 0] 40))
  rw [show (w.alloc (.cells #[.int .i64 e, .slice a ps.length c] 40)).alloc (.cells #[.int .i64 0, .slice none 0 0] 40) = V from HV.out.symm]
  go_wp2_with (first
    | (refine HCL.out.mono ?_; rintro x w2 ⟨a', c', rfl, ho, hb2⟩; have HX3 := mkH (HX1.out.bel hb2); have HX4 := mkH (HX2.out.bel hb2); have HO := mkH ho; have HB2 := mkH (HB.out.trans (hb2.mono HB.out.size)); have d1 : w2.cell? ⟨w.heap.size, 1, none⟩ = some (.slice a ps.length c) := HX3.out.cell 1 _ rfl; have f1 := HX3.out.frozen 1; clear hb2 ho)
    | (refine Gk.wpList_ld (ty := 40) (x := .tmp 1) (p := ⟨w.heap.size, 0, none⟩) (v := .agg #[.int .i64 e, .slice a' ps.length c']) rfl rfl rfl (load_ch (Fp.Bx.setTo HX3.out 1 (.slice a' ps.length c') rfl)) ?_)
    | (refine Gk.wpList_st rfl (ty := 40) (x := .tmp 2) (y := .tmp 7) (cs := #[.int .i64 e, .slice a' ps.length c']) (old := #[.int .i64 0, .slice none 0 0]) rfl rfl rfl (HX4.out.other (p := ⟨w.heap.size, 1, none⟩) (by simp) (.slice a' ps.length c')) infoCh rfl (by rw [List.all_toArray]; rfl) ?_))
  have hz := (HX4.out.other (p := ⟨w.heap.size, 1, none⟩) (by simp) (.slice a' ps.length c')).row (cs := #[.int .i64 e, .slice a' ps.length c'])
  refine bodyPost_ret (Gk.res_c rfl _ _ _ rfl (load_ch hz)) rfl ?_
  have hk := fun k hk (hq : k = w.heap.size) => Gk.own_ne HO.out.o HX3.out hk (by decide) hq
  have hk2 := fun k hk (hq : k = w.heap.size + 1) => Gk.own_ne HO.out.o HX4.out hk (by decide) hq
  have o1 := own_fr HO.out.o (HX3.out.frset 1 (.slice a' ps.length c')) hk
  have o2 := own_fr o1 (Bx.frrow (b := w.heap.size + 1) #[.int .i64 e, .slice a' ps.length c']) hk2
  exact ⟨a', c', rfl, (OwP.mk o2).rd, below_setRow (HB2.out.setCell (Nat.le_refl _) _) (by omega) _, fun x hx => by subst hx; have h1 := (o2.lt x.block (by simp [Value.ownBlock])).1; have h2 := HB.out.size; omega⟩
end Go.Proofs.Ytabckkepkennhaa.Fi
