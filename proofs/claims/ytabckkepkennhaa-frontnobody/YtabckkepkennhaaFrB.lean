/-
  The parts of an asker inside of a client: askAgain, Num, Ask.
-/
import Derived.Test.YtabckkepkennhaaFrA
import Derived.Deep.RegionHeld3
namespace Go.Proofs.Ytabckkepkennhaa.Fb
open Go.RowKit Kt Gf Gk Fp Fa
open Go.Proofs.Ytabckkepkennhaa.Nm (Mc)
set_option linter.unusedVariables false
set_option linter.unusedSimpArgs false
set_option maxRecDepth 20000

/-- What a call leaves that turns the block B alone. -/
def Tn (w : World) (B : Nat) (cs : Array Value) (t : TypeId) (w' : World) : Prop := Bx w' B cs t ∧ Fr (fun q => q = B) w w'
theorem askAgain_any {w : World} {B : Nat} {mv : Value} {a : As} {k : Kl} (h : Bx w B (Xc k a mv) 57) :
    Calls Try.prog 41 #[.pointer (some ⟨B, 0, none⟩)] w fun x w' => x = .returned (.tuple #[]) ∧ Tn w B (Xc k { a with asks := true, sent := false } mv) 57 w' := by
  have c23 : w.cell? ⟨B, 23, none⟩ = some (.bool a.asks) := h.cell 23 _ rfl
  have c24 : w.cell? ⟨B, 24, none⟩ = some (.bool a.sent) := h.cell 24 _ rfl
  have f23 := h.frozen 23
  have f24 := h.frozen 24
  have h1 : Bx (w.setCell ⟨B, 23, none⟩ (.bool true)) B (Xc k { a with asks := true } mv) 57 := Bx.setTo h 23 _ rfl
  have h2 : Bx ((w.setCell ⟨B, 23, none⟩ (.bool true)).setCell ⟨B, 24, none⟩ (.bool false)) B (Xc k { a with asks := true, sent := false } mv) 57 := Bx.setTo h1 24 _ rfl
  have d24 := h1.frozen 24
  have e24 : (w.setCell ⟨B, 23, none⟩ (.bool true)).cell? ⟨B, 24, none⟩ = some (.bool a.sent) := h1.cell 24 _ rfl
  have hf : Fr (fun q => q = B) w ((w.setCell ⟨B, 23, none⟩ (.bool true)).setCell ⟨B, 24, none⟩ (.bool false)) := (h.frset 23 _).trans (h1.frset 24 _) (fun i hi => .inl hi)
  have HT : Hid (Tn w B (Xc k { a with asks := true, sent := false } mv) 57 ((w.setCell ⟨B, 23, none⟩ (.bool true)).setCell ⟨B, 24, none⟩ (.bool false))) := mkH ⟨h2, hf⟩
  clear h h1 h2 hf
  go_enter Try.func41, Try.ntmps41
  go_wp2
  exact bodyPost_end (v := .tuple #[]) (results_none rfl _ _ _) rfl ⟨rfl, HT.out⟩
theorem keep2 {W : World} {B n i j off : Nat} {x y : Option Value} {v : Value} (hne : B ≠ n) (h : W.cell? ⟨B, i, none⟩ = x ∧ W.cell? ⟨B, j, none⟩ = y) : (W.setCell ⟨n, off, none⟩ v).drew.cell? ⟨B, i, none⟩ = x ∧ (W.setCell ⟨n, off, none⟩ v).drew.cell? ⟨B, j, none⟩ = y :=
  ⟨(cell_other (W := W) (p := ⟨n, off, none⟩) (a := ⟨B, i, none⟩) hne v).trans h.1, (cell_other (W := W) (p := ⟨n, off, none⟩) (a := ⟨B, j, none⟩) hne v).trans h.2⟩
set_option maxHeartbeats 1000000 in
theorem Ask_ok {w : World} {B m : Nat} {a : As} {k : Kl} (h : Bx w B (Xc k a (.map (some m))) 57) (hid : a.asks = false) (hn : 0 ≤ a.c.num ∧ a.c.num ≤ 1000000) (g : Int) (hg : 0 ≤ g ∧ g ≤ 6) (c : Cm) :
    Calls Try.prog 15 #[.pointer (some ⟨B, 0, none⟩), .int .i64 g, .agg (cV c)] w fun x w' => x = .returned (.int .i64 0) ∧
      Tn w B (Xc k { a with group := g, c := { c with client := a.id, num := a.c.num + 1 }, asks := true, sent := false } (.map (some m))) 57 w' := by
  obtain ⟨V, hV⟩ : ∃ V, V = w.alloc (.cells (cV c) 32) := ⟨_, rfl⟩
  have hb1 : Below w.heap.size w V := by rw [hV]; exact (Below.refl _ w).alloc (Nat.le_refl _) _
  have hx1 : Bx V w.heap.size (cV c) 32 := by rw [hV]; exact Bx.new _ _ _
  have h1 := h.bel hb1
  have hlt := h.lt
  have c23 : V.cell? ⟨B, 23, none⟩ = some (.bool a.asks) := h1.cell 23 _ rfl
  rw [hid] at c23
  have HM := mkH (isMade_any h1)
  have HG := mkH (isGroup_any V g)
  rw [show decide (0 ≤ g ∧ g ≤ 6) = true from decide_eq_true hg] at HG
  have HO := mkH (ownCmd_any V c)
  have HX1 := mkH hx1
  have H1 := mkH h1
  have HB := mkH hb1
  have HV := mkH hV
  have HL := mkH hlt
  have HID := mkH hid
  clear h hb1 hx1 h1 hV hlt hid
  go_enter Try.func15, Try.ntmps15
  go_upto_region 1 with fail
  change Code.wp _ _ _ _ (w.alloc (.cells (cV c) 32))
  rw [show w.alloc (.cells (cV c) 32) = V from HV.out.symm]
  go_wp2_with (first
    | (refine HM.out.mono ?_; rintro x w2 ⟨rfl, rfl⟩)
    | (refine HG.out.mono ?_; rintro x w2 ⟨rfl, rfl⟩)
    | (refine Gk.wpList_ld (ty := 32) (x := .tmp 5) (p := ⟨w.heap.size, 0, none⟩) (v := .agg (cV c)) rfl rfl rfl (load_c HX1.out) ?_)
    | (refine HO.out.mono ?_; rintro x w3 ⟨rfl, hb3⟩; have HX3 := mkH (HX1.out.bel hb3); have H3 := mkH (H1.out.bel hb3); have HB3 := mkH (HB.out.trans (hb3.mono HB.out.size)); clear hb3)
    | (refine Gk.wpList_st rfl (ty := 32) (x := .tmp 5) (y := .tmp 21) (cs := cV c) (old := cV c) rfl rfl rfl HX3.out infoC rfl (cV_one c) ?_))
  have HX4 := mkH (HX3.out.row (cs := cV c))
  have H4 := mkH (H3.out.rowOther (g := w.heap.size) (Nat.ne_of_gt HL.out) (cV c))
  have HB4 := mkH (below_setRow HB3.out (Nat.le_refl _) (cV c))
  generalize hV4 : w3.setRow w.heap.size (cV c) = V4 at HX4 H4 HB4 ⊢
  clear hV4 HX3 H3 HB3 HX1 H1 HB HV HM HG HO c23
  have c0 : V4.cell? ⟨B, 0, none⟩ = some (.int .i64 a.id) := H4.out.cell 0 _ rfl
  have c6 : V4.cell? ⟨B, 6, none⟩ = some (.int .i64 a.c.num) := H4.out.cell 6 _ rfl
  have x1 : V4.cell? ⟨w.heap.size, 1, none⟩ = some (.int .i64 c.client) := HX4.out.cell 1 _ rfl
  have x2 : V4.cell? ⟨w.heap.size, 2, none⟩ = some (.int .i64 c.num) := HX4.out.cell 2 _ rfl
  have z1 := HX4.out.frozen 1
  have z2 := HX4.out.frozen 2
  have hne : B ≠ w.heap.size := Nat.ne_of_lt HL.out
  have hne2 : w.heap.size ≠ B := fun e => hne e.symm
  have hmx : Try.prog.follows .mixedOrders = true := by kernel_rfl
  go_region_held3 (fun W => W.cell? ⟨B, 0, none⟩ = some (.int .i64 a.id) ∧ W.cell? ⟨B, 6, none⟩ = some (.int .i64 a.c.num)) (first | go_keep | (go_loud (refine keep2 hne ⟨?_, ?_⟩ <;> assumption))) (first | fail)
  all_goals
    rw [show IntKind.i64.wrap (a.c.num + 1) = a.c.num + 1 by rw [IntKind.wrap_i64]; omega]
    obtain ⟨c', hc'⟩ : ∃ c' : Cm, c' = { c with client := a.id, num := a.c.num + 1 } := ⟨_, rfl⟩
    have HX5 := mkH (show Bx ((V4.setCell ⟨w.heap.size, 1, none⟩ (.int .i64 a.id)).setCell ⟨w.heap.size, 2, none⟩ (.int .i64 (a.c.num + 1))).drew w.heap.size (cV c') 32 from by rw [hc']; exact (HX4.out.set 1 _).set 2 _)
    have H5 := mkH (show Bx ((V4.setCell ⟨w.heap.size, 1, none⟩ (.int .i64 a.id)).setCell ⟨w.heap.size, 2, none⟩ (.int .i64 (a.c.num + 1))).drew B (Xc k a (.map (some m))) 57 from (H4.out.other (p := ⟨w.heap.size, 1, none⟩) hne2 _).other (p := ⟨w.heap.size, 2, none⟩) hne2 _)
    have HB5 := mkH (show Below w.heap.size w ((V4.setCell ⟨w.heap.size, 1, none⟩ (.int .i64 a.id)).setCell ⟨w.heap.size, 2, none⟩ (.int .i64 (a.c.num + 1))).drew from Below.drew ((HB4.out.setCell (Nat.le_refl _) _).setCell (Nat.le_refl _) _))
    generalize ((V4.setCell ⟨w.heap.size, 1, none⟩ (.int .i64 a.id)).setCell ⟨w.heap.size, 2, none⟩ (.int .i64 (a.c.num + 1))).drew = V5 at *
    clear HX4 H4 HB4 c0 c6 x1 x2 z1 z2
    have HC' := mkH hc'
    clear hc'
    have H6 := mkH (show Bx (V5.setRow B (Xc k { a with c := c' } (.map (some m)))) B (Xc k { a with c := c' } (.map (some m))) 57 from H5.out.row)
    have HAG := mkH (askAgain_any H6.out)
    go_wp2_with (first
      | (refine Gk.wpList_ld (ty := 32) (x := .tmp 5) (p := ⟨w.heap.size, 0, none⟩) (v := .agg (cV c')) rfl rfl rfl (load_c HX5.out) ?_)
      | (refine Fp.wpList_stp rfl (ty := 32) (x := .tmp 37) (y := .tmp 35) (cs := Xc k a (.map (some m))) (cs' := Xc k { a with c := c' } (.map (some m))) rfl 4 rfl rfl H5.out infoC (by simp [Xc, cV]) (cV_one c') rfl ?_)
      | (refine HAG.out.mono ?_; rintro x w7 ⟨rfl, hT⟩; have f3 := hT.1.frozen 3; have c3 : w7.cell? ⟨B, 3, none⟩ = some (.int .i64 a.group) := hT.1.cell 3 _ rfl; have HT := mkH hT; clear hT))
    go_ret
    obtain ⟨hT1, hT2⟩ := HT.out
    have hc' := HC'.out
    refine ⟨rfl, ?_, ?_⟩
    · rw [← hc']; exact Bx.setTo hT1 3 _ rfl
    · exact (((Fr.ofBelow (F := fun q => q = B) HB5.out).trans (Bx.frrow _) (fun i hi => .inl hi)).trans hT2 (fun i hi => .inl hi)).trans (hT1.frset 3 _) (fun i hi => .inl hi)
end Go.Proofs.Ytabckkepkennhaa.Fb
