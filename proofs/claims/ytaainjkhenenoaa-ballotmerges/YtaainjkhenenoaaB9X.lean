/-
  The document's Add and Merge.
-/
import Derived.Test.YtaainjkhenenoaaB9Y
import Derived.Test.YtaainjkhenenoaaB9E
namespace Go.Proofs.Ytaainjkhenenoaa.Bx
open Go.RowKit Kt Dk Bp Bm Br Be By
set_option linter.unusedVariables false
set_option maxRecDepth 20000

theorem add_split {pre r : List X} {x : X} (h : ∀ y ∈ pre, y.s < x.s) : add (pre ++ r) x = pre ++ add r x := by
  induction pre with
  | nil => rfl
  | cons z l ih =>
    have := h z (by simp)
    rw [List.cons_append, add, if_neg (by omega), if_neg (by omega), ih (fun y hy => h y (by simp [hy]))]
    rfl
theorem drop_at {l : List X} {j : Nat} {y : X} (h : l[j]? = some y) : l.drop j = y :: l.drop (j + 1) := by
  have hj := lt_of h
  rw [List.drop_eq_getElem_cons hj]
  rw [List.getElem?_eq_getElem hj] at h
  rw [Option.some.inj h]
theorem split_at {l : List X} {j : Nat} {y : X} (h : l[j]? = some y) : l = l.take j ++ y :: l.drop (j + 1) := by rw [← drop_at h, List.take_append_drop]
/-- What one vote more leaves of a row. -/
theorem step_app {w0 wq w' : World} {B n : Nat} {v v' : Value} {os : List X} {x : X} {o : Obj} (hbw : Below B w0 wq) (hB : B ≤ wq.heap.size) (ho : wq.ownsRow B 38 3 v n (Fx os)) (h' : w'.ownsRow B 38 3 v' (n + 1) (Fx os ++ Fx [x])) (hg : (wq.alloc o).grownBy w' v.ownBlock) :
    ∃ a c, v' = .slice a (n + 1) c ∧ w'.ownsRow B 38 3 (.slice a (n + 1) c) (n + 1) (Fx (os ++ [x])) ∧ Below B w0 w' := by
  obtain ⟨a, c, rfl⟩ := own_form h'
  refine ⟨a, c, rfl, ?_, below_own (World.ownsRow.alloc ho o) hg (hbw.alloc hB o) (by simp; omega)⟩
  unfold Fx
  rw [Fl_append]
  exact h'
theorem src1 (w : World) (x : X) : Src Try.prog 3 30 (.slice (some ⟨w.heap.size, 0, none⟩) 1 1) 1 (Fx [x]) (w.alloc (.cells #[.int .i64 x.s, .int .i64 x.b, .slice x.a x.v.length x.c] 38)) :=
  src_new (P := Try.prog) vC_len vC_one (by decide) Try.underlying30 w x 38

set_option maxHeartbeats 8000000 in
theorem radd_any (w : World) (ao : Option Addr) (cap : Nat) (l : List X) (x : X) (h : RowX w ao l) (hll : l.length ≤ 1000) :
    Calls Try.prog 36 #[.slice ao l.length cap, .agg #[.int .i64 x.s, .int .i64 x.b, .slice x.a x.v.length x.c]] w fun e w' => ∃ ra rc, e = .returned (.slice ra (add l x).length rc) ∧ w'.ownsRow w.heap.size 38 3 (.slice ra (add l x).length rc) (add l x).length (Fx (add l x)) ∧ Below w.heap.size w w' := by
  obtain ⟨xs, xb, xv, xa, xc⟩ := x
  simp only
  have hb0 : Below w.heap.size w (w.alloc (.cells #[.int .i64 xs, .int .i64 xb, .slice xa xv.length xc] 38)) := (Below.refl _ w).alloc (Nat.le_refl _) _
  have hs0 : (w.alloc (.cells #[.int .i64 xs, .int .i64 xb, .slice xa xv.length xc] 38)).heap.size = w.heap.size + 1 := by simp
  have e0 : (w.alloc (.cells #[.int .i64 xs, .int .i64 xb, .slice xa xv.length xc] 38)).cell? ⟨w.heap.size, 0, none⟩ = some (.int .i64 xs) := cell_new_at w _ _ 0 _ rfl
  have e1 : (w.alloc (.cells #[.int .i64 xs, .int .i64 xb, .slice xa xv.length xc] 38)).cell? ⟨w.heap.size, 1, none⟩ = some (.int .i64 xb) := cell_new_at w _ _ 1 _ rfl
  have e2 : (w.alloc (.cells #[.int .i64 xs, .int .i64 xb, .slice xa xv.length xc] 38)).cell? ⟨w.heap.size, 2, none⟩ = some (.slice xa xv.length xc) := cell_new_at w _ _ 2 _ rfl
  have HR := mkH (h.below hb0)
  have HB0 := mkH hb0
  clear h hb0
  go_enter Try.func36, Try.ntmps36
  go_wp2_with fail
  generalize w.alloc (.cells #[.int .i64 xs, .int .i64 xb, .slice xa xv.length xc] 38) = w0 at *
  have HCX : Hid (∀ W, Below w0.heap.size w0 W → W.cell? ⟨w.heap.size, 0, none⟩ = some (.int .i64 xs) ∧ W.cell? ⟨w.heap.size, 1, none⟩ = some (.int .i64 xb) ∧ W.cell? ⟨w.heap.size, 2, none⟩ = some (.slice xa xv.length xc)) := fun W hW =>
    ⟨(hW.cell (p := ⟨w.heap.size, 0, none⟩) (by show w.heap.size < _; omega)).trans e0, (hW.cell (p := ⟨w.heap.size, 1, none⟩) (by show w.heap.size < _; omega)).trans e1, (hW.cell (p := ⟨w.heap.size, 2, none⟩) (by show w.heap.size < _; omega)).trans e2⟩
  clear e0 e1 e2
  go_loopw [5, 6, 7] (fun mv pv i wr => ∃ (j n : Nat) (p : Bool) (ra : Option Addr) (rc : Nat) (os : List X), j ≤ l.length ∧ n ≤ j + 1 ∧ i = .int .i64 (j : Int) ∧ pv = .bool p ∧ mv = .slice ra n rc ∧ Hid (os.length = n) ∧ Hid (p = false → os = l.take j ∧ ∀ y ∈ l.take j, y.s < xs) ∧ Hid (p = true → os ++ l.drop j = add l ⟨xs, xb, xv, xa, xc⟩) ∧ Hid (wr.ownsRow w0.heap.size 38 3 (.slice ra n rc) n (Fx os)) ∧ Hid (Below w0.heap.size w0 wr))
    (fun _ _ i _ => l.length - (intOf i).toNat)
  case atStart => exact ⟨0, 0, false, none, 0, [], Nat.zero_le _, by omega, rfl, rfl, rfl, rfl, mkH (fun _ => ⟨rfl, fun y hy => by simp at hy⟩), mkH (fun h => by cases h), mkH (World.ownsRow_nil w0 _ _ _), mkH (Below.refl _ _)⟩
  case round =>
    obtain ⟨j, n, p, ra, rc, os, hj, hn, rfl, rfl, rfl, HOL, HPF, HPT, HO, HB⟩ := hrel
    have hsw : w0.heap.size ≤ wr.heap.size := HB.out.size
    rcases Nat.lt_or_ge j l.length with hjl | hjl
    · obtain ⟨y, hy⟩ := some_of hjl
      obtain ⟨b1, o1, rfl, hcl⟩ := HR.out (by omega)
      have HSP := mkH (split_at hy)
      have HDA := mkH (drop_at hy)
      have HTS := mkH (take_snoc hy)
      have HCY0 : Hid (∀ W, Below w0.heap.size w0 W → W.cell? ⟨b1, o1 + j * 3, none⟩ = some (.int .i64 y.s) ∧ W.cell? ⟨b1, o1 + j * 3 + 1, none⟩ = some (.int .i64 y.b) ∧ W.cell? ⟨b1, o1 + j * 3 + 2, none⟩ = some (.slice y.a y.v.length y.c)) := fun W hW => by
        have c0 := hcl j y hy 0 _ rfl
        have c1 := hcl j y hy 1 _ rfl
        have c2 := hcl j y hy 2 _ rfl
        have hb : b1 < w0.heap.size := World.block_lt_of_cell? w0 ⟨b1, o1 + j * 3 + 0, none⟩ c0
        exact ⟨(hW.cell (p := ⟨b1, o1 + j * 3, none⟩) hb).trans c0, (hW.cell (p := ⟨b1, o1 + j * 3 + 1, none⟩) hb).trans c1, (hW.cell (p := ⟨b1, o1 + j * 3 + 2, none⟩) hb).trans c2⟩
      obtain ⟨s, bl, v, ya, yc⟩ := y
      have HCY : Hid (∀ W, Below w0.heap.size w0 W → W.cell? ⟨b1, o1 + j * 3, none⟩ = some (.int .i64 s) ∧ W.cell? ⟨b1, o1 + j * 3 + 1, none⟩ = some (.int .i64 bl) ∧ W.cell? ⟨b1, o1 + j * 3 + 2, none⟩ = some (.slice ya v.length yc)) := HCY0
      clear hcl hy HCY0
      obtain ⟨x0, x1, x2⟩ := HCX.out wr HB.out
      obtain ⟨y0, y1, y2⟩ := HCY.out wr HB.out
      cases p with
      | true =>
        have HPT' := mkH (HPT.out rfl)
        clear HPF HPT
        go_wp2_with fail
        go_quiet (fail)
        clear x0 x1 x2 y0 y1 y2
        have HBQ : Hid (Below w0.heap.size w0 (wr.drewN nq)) := below_drewN HB.out nq
        have HOQ : Hid ((wr.drewN nq).ownsRow w0.heap.size 38 3 (.slice ra n rc) n (Fx os)) := HO.out
        obtain ⟨x0, x1, x2⟩ := HCX.out _ HBQ.out
        obtain ⟨y0, y1, y2⟩ := HCY.out _ HBQ.out
        have hsq : w0.heap.size ≤ (wr.drewN nq).heap.size := HBQ.out.size
        generalize wr.drewN nq = wq at *
        have HSY := mkH (src1 wq ⟨s, bl, v, ya, yc⟩)
        go_wp2_with (at_builtin; refine wpList_append_own_src _ rfl (.tmp 50) (.tmp 55) 30 30 rfl w0.heap.size 38 (.agg #[.int .i64 0, .int .i64 0, .slice none 0 0]) 3 40 Try.underlying30 infoV rfl (by decide) _ n (Fx os) rfl (World.ownsRow.alloc HOQ.out _) _ 1 (Fx [⟨s, bl, v, ya, yc⟩]) rfl HSY.out (by unfold maxLen; omega) (by omega) (by simp; omega) ?_; intro v' w' ho' hg')
        obtain ⟨ra', rc', rfl, ho2, hb2⟩ := step_app HBQ.out hsq HOQ.out ho' hg'
        have HO' := mkH ho2
        have HB' := mkH hb2
        clear ho' hg' ho2 hb2
        go_wp2
        exact ⟨⟨j + 1, n + 1, true, ra', rc', os ++ [⟨s, bl, v, ya, yc⟩], by omega, by omega, by go_num, rfl, rfl, mkH (by rw [List.length_append, HOL.out]; rfl), mkH (fun h => by cases h), mkH (fun _ => by rw [← HPT'.out, HDA.out, List.append_assoc]; rfl), HO', HB'⟩, by simp [intOf]; omega⟩
      | false =>
        have HPF' := mkH (HPF.out rfl)
        have hnj : n ≤ j := by have := HOL.out; rw [HPF'.out.1, List.length_take] at this; omega
        clear HPF HPT
        by_cases hlt : s < xs
        · have g1 : ¬ xs ≤ s := by omega
          have g2 : decide (xs ≤ s) = false := by simp; omega
          go_wp2_with fail
          go_quiet (fail)
          clear g1 g2
          clear x0 x1 x2 y0 y1 y2
          have HBQ : Hid (Below w0.heap.size w0 (wr.drewN nq)) := below_drewN HB.out nq
          have HOQ : Hid ((wr.drewN nq).ownsRow w0.heap.size 38 3 (.slice ra n rc) n (Fx os)) := HO.out
          obtain ⟨x0, x1, x2⟩ := HCX.out _ HBQ.out
          obtain ⟨y0, y1, y2⟩ := HCY.out _ HBQ.out
          have hsq : w0.heap.size ≤ (wr.drewN nq).heap.size := HBQ.out.size
          generalize wr.drewN nq = wq at *
          have HSY := mkH (src1 wq ⟨s, bl, v, ya, yc⟩)
          go_wp2_with (at_builtin; refine wpList_append_own_src _ rfl (.tmp 50) (.tmp 55) 30 30 rfl w0.heap.size 38 (.agg #[.int .i64 0, .int .i64 0, .slice none 0 0]) 3 40 Try.underlying30 infoV rfl (by decide) _ n (Fx os) rfl (World.ownsRow.alloc HOQ.out _) _ 1 (Fx [⟨s, bl, v, ya, yc⟩]) rfl HSY.out (by unfold maxLen; omega) (by omega) (by simp; omega) ?_; intro v' w' ho' hg')
          obtain ⟨ra', rc', rfl, ho2, hb2⟩ := step_app HBQ.out hsq HOQ.out ho' hg'
          have HO' := mkH ho2
          have HB' := mkH hb2
          clear ho' hg' ho2 hb2
          go_wp2
          refine ⟨⟨j + 1, n + 1, false, ra', rc', os ++ [⟨s, bl, v, ya, yc⟩], by omega, by omega, by go_num, rfl, rfl, mkH (by rw [List.length_append, HOL.out]; rfl), mkH (fun _ => ⟨by rw [HPF'.out.1, HTS.out], fun y hy => ?_⟩), mkH (fun h => by cases h), HO', HB'⟩, by simp [intOf]; omega⟩
          have hy2 : y ∈ l.take j ++ [_] := HTS.out ▸ hy
          rcases List.mem_append.1 hy2 with hy | hy
          · exact HPF'.out.2 y hy
          · obtain rfl := List.mem_singleton.1 hy
            exact hlt
        · have hge : xs ≤ s := by omega
          have HEQ : Hid (add l ⟨xs, xb, xv, xa, xc⟩ = l.take j ++ add (⟨s, bl, v, ya, yc⟩ :: l.drop (j + 1)) ⟨xs, xb, xv, xa, xc⟩) := by
            show _ = _
            rw [← add_split (fun y hy => HPF'.out.2 y hy), ← HSP.out]
          go_wp2_with fail
          go_quiet (fail)
          clear x0 x1 x2 y0 y1 y2
          have HBQ : Hid (Below w0.heap.size w0 (wr.drewN nq)) := below_drewN HB.out nq
          have HOQ : Hid ((wr.drewN nq).ownsRow w0.heap.size 38 3 (.slice ra n rc) n (Fx os)) := HO.out
          obtain ⟨x0, x1, x2⟩ := HCX.out _ HBQ.out
          obtain ⟨y0, y1, y2⟩ := HCY.out _ HBQ.out
          have hsq : w0.heap.size ≤ (wr.drewN nq).heap.size := HBQ.out.size
          generalize wr.drewN nq = wq at *
          by_cases hgt : xs < s
          · have HE2 : Hid (add l ⟨xs, xb, xv, xa, xc⟩ = os ++ [⟨xs, xb, xv, xa, xc⟩] ++ [⟨s, bl, v, ya, yc⟩] ++ l.drop (j + 1)) := by
              show _ = _
              rw [HEQ.out, add, if_pos hgt, HPF'.out.1]
              simp
            go_wp2_with fail
            go_quiet (fail)
            have HBQ0 := HBQ
            have HOQ0 := HOQ
            clear HBQ HOQ x0 x1 x2 y0 y1 y2 hsq
            have HBQ : Hid (Below w0.heap.size w0 (wq.drewN nq)) := below_drewN HBQ0.out nq
            have HOQ : Hid ((wq.drewN nq).ownsRow w0.heap.size 38 3 (.slice ra n rc) n (Fx os)) := HOQ0.out
            obtain ⟨x0, x1, x2⟩ := HCX.out _ HBQ.out
            obtain ⟨y0, y1, y2⟩ := HCY.out _ HBQ.out
            have hsq : w0.heap.size ≤ (wq.drewN nq).heap.size := HBQ.out.size
            generalize wq.drewN nq = wq at *
            have HSX := mkH (src1 wq ⟨xs, xb, xv, xa, xc⟩)
            go_wp2_with (first
              | (at_builtin; refine wpList_append_own_src _ rfl (.tmp 34) (.tmp 36) 30 30 rfl w0.heap.size 38 (.agg #[.int .i64 0, .int .i64 0, .slice none 0 0]) 3 40 Try.underlying30 infoV rfl (by decide) _ n (Fx os) rfl (World.ownsRow.alloc HOQ.out _) _ 1 (Fx [⟨xs, xb, xv, xa, xc⟩]) rfl HSX.out (by unfold maxLen; omega) (by omega) (by simp; omega) ?_; intro v' w' ho' hg'; obtain ⟨ra1, rc1, rfl, ho1, hb1⟩ := step_app HBQ.out hsq HOQ.out ho' hg'; clear ho' hg'; have hs1 : w0.heap.size ≤ w'.heap.size := hb1.size; obtain ⟨z0, z1, z2⟩ := HCY.out w' hb1; have HSY := mkH (src1 w' ⟨s, bl, v, ya, yc⟩); have HB1 := mkH hb1; have HO1 := mkH ho1; clear hb1 ho1)
              | (at_builtin; refine wpList_append_own_src _ rfl (.tmp 50) (.tmp 55) 30 30 rfl w0.heap.size 38 (.agg #[.int .i64 0, .int .i64 0, .slice none 0 0]) 3 40 Try.underlying30 infoV rfl (by decide) _ (n + 1) (Fx (os ++ [⟨xs, xb, xv, xa, xc⟩])) rfl (World.ownsRow.alloc HO1.out _) _ 1 (Fx [⟨s, bl, v, ya, yc⟩]) rfl HSY.out (by unfold maxLen; omega) (by omega) (by simp; omega) ?_; intro v'' w'' ho'' hg''; obtain ⟨ra', rc', rfl, ho2, hb2⟩ := step_app HB1.out hs1 HO1.out ho'' hg''; clear ho'' hg''; have HO' := mkH ho2; have HB' := mkH hb2; clear ho2 hb2))
            exact ⟨⟨j + 1, n + 1 + 1, true, ra', rc', os ++ [⟨xs, xb, xv, xa, xc⟩] ++ [⟨s, bl, v, ya, yc⟩], by omega, by omega, by go_num, rfl, rfl, mkH (by rw [List.length_append, List.length_append, HOL.out]; rfl), mkH (fun h => by cases h), mkH (fun _ => HE2.out.symm), HO', HB'⟩, by simp [intOf]; omega⟩
          · have hse : s = xs := by omega
            subst hse
            by_cases hbb : bl < xb
            · have HE2 : Hid (add l ⟨s, xb, xv, xa, xc⟩ = os ++ [⟨s, xb, xv, xa, xc⟩] ++ l.drop (j + 1)) := by
                show _ = _
                rw [HEQ.out, add, if_neg (by simp), if_pos rfl, if_pos hbb, HPF'.out.1]
                simp
              go_wp2_with fail
              go_quiet (fail)
              have HBQ0 := HBQ
              have HOQ0 := HOQ
              clear HBQ HOQ x0 x1 x2 y0 y1 y2 hsq
              have HBQ : Hid (Below w0.heap.size w0 (wq.drewN nq)) := below_drewN HBQ0.out nq
              have HOQ : Hid ((wq.drewN nq).ownsRow w0.heap.size 38 3 (.slice ra n rc) n (Fx os)) := HOQ0.out
              obtain ⟨x0, x1, x2⟩ := HCX.out _ HBQ.out
              obtain ⟨y0, y1, y2⟩ := HCY.out _ HBQ.out
              have hsq : w0.heap.size ≤ (wq.drewN nq).heap.size := HBQ.out.size
              generalize wq.drewN nq = wq at *
              go_wp2_with fail
              go_quiet (fail)
              have HBQ0 := HBQ
              have HOQ0 := HOQ
              clear HBQ HOQ x0 x1 x2 y0 y1 y2 hsq
              have HBQ : Hid (Below w0.heap.size w0 (wq.drewN nq)) := below_drewN HBQ0.out nq
              have HOQ : Hid ((wq.drewN nq).ownsRow w0.heap.size 38 3 (.slice ra n rc) n (Fx os)) := HOQ0.out
              obtain ⟨x0, x1, x2⟩ := HCX.out _ HBQ.out
              obtain ⟨y0, y1, y2⟩ := HCY.out _ HBQ.out
              have hsq : w0.heap.size ≤ (wq.drewN nq).heap.size := HBQ.out.size
              generalize wq.drewN nq = wq at *
              have HSX := mkH (src1 wq ⟨s, xb, xv, xa, xc⟩)
              go_wp2_with (at_builtin; refine wpList_append_own_src _ rfl (.tmp 46) (.tmp 48) 30 30 rfl w0.heap.size 38 (.agg #[.int .i64 0, .int .i64 0, .slice none 0 0]) 3 40 Try.underlying30 infoV rfl (by decide) _ n (Fx os) rfl (World.ownsRow.alloc HOQ.out _) _ 1 (Fx [⟨s, xb, xv, xa, xc⟩]) rfl HSX.out (by unfold maxLen; omega) (by omega) (by simp; omega) ?_; intro v' w' ho' hg')
              obtain ⟨ra', rc', rfl, ho2, hb2⟩ := step_app HBQ.out hsq HOQ.out ho' hg'
              have HO' := mkH ho2
              have HB' := mkH hb2
              clear ho' hg' ho2 hb2
              go_wp2
              exact ⟨⟨j + 1, n + 1, true, ra', rc', os ++ [⟨s, xb, xv, xa, xc⟩], by omega, by omega, by go_num, rfl, rfl, mkH (by rw [List.length_append, HOL.out]; rfl), mkH (fun h => by cases h), mkH (fun _ => HE2.out.symm), HO', HB'⟩, by simp [intOf]; omega⟩
            · have HE2 : Hid (add l ⟨s, xb, xv, xa, xc⟩ = os ++ [⟨s, bl, v, ya, yc⟩] ++ l.drop (j + 1)) := by
                show _ = _
                rw [HEQ.out, add, if_neg (by simp), if_pos rfl, if_neg hbb, HPF'.out.1]
                simp
              go_wp2_with fail
              go_quiet (fail)
              have HBQ0 := HBQ
              have HOQ0 := HOQ
              clear HBQ HOQ x0 x1 x2 y0 y1 y2 hsq
              have HBQ : Hid (Below w0.heap.size w0 (wq.drewN nq)) := below_drewN HBQ0.out nq
              have HOQ : Hid ((wq.drewN nq).ownsRow w0.heap.size 38 3 (.slice ra n rc) n (Fx os)) := HOQ0.out
              obtain ⟨x0, x1, x2⟩ := HCX.out _ HBQ.out
              obtain ⟨y0, y1, y2⟩ := HCY.out _ HBQ.out
              have hsq : w0.heap.size ≤ (wq.drewN nq).heap.size := HBQ.out.size
              generalize wq.drewN nq = wq at *
              go_wp2_with fail
              go_quiet (fail)
              have HBQ0 := HBQ
              have HOQ0 := HOQ
              clear HBQ HOQ x0 x1 x2 y0 y1 y2 hsq
              have HBQ : Hid (Below w0.heap.size w0 (wq.drewN nq)) := below_drewN HBQ0.out nq
              have HOQ : Hid ((wq.drewN nq).ownsRow w0.heap.size 38 3 (.slice ra n rc) n (Fx os)) := HOQ0.out
              obtain ⟨x0, x1, x2⟩ := HCX.out _ HBQ.out
              obtain ⟨y0, y1, y2⟩ := HCY.out _ HBQ.out
              have hsq : w0.heap.size ≤ (wq.drewN nq).heap.size := HBQ.out.size
              generalize wq.drewN nq = wq at *
              have HSY := mkH (src1 wq ⟨s, bl, v, ya, yc⟩)
              go_wp2_with (at_builtin; refine wpList_append_own_src _ rfl (.tmp 50) (.tmp 55) 30 30 rfl w0.heap.size 38 (.agg #[.int .i64 0, .int .i64 0, .slice none 0 0]) 3 40 Try.underlying30 infoV rfl (by decide) _ n (Fx os) rfl (World.ownsRow.alloc HOQ.out _) _ 1 (Fx [⟨s, bl, v, ya, yc⟩]) rfl HSY.out (by unfold maxLen; omega) (by omega) (by simp; omega) ?_; intro v' w' ho' hg')
              obtain ⟨ra', rc', rfl, ho2, hb2⟩ := step_app HBQ.out hsq HOQ.out ho' hg'
              have HO' := mkH ho2
              have HB' := mkH hb2
              clear ho' hg' ho2 hb2
              go_wp2
              exact ⟨⟨j + 1, n + 1, true, ra', rc', os ++ [⟨s, bl, v, ya, yc⟩], by omega, by omega, by go_num, rfl, rfl, mkH (by rw [List.length_append, HOL.out]; rfl), mkH (fun h => by cases h), mkH (fun _ => HE2.out.symm), HO', HB'⟩, by simp [intOf]; omega⟩
    · have hje : j = l.length := by omega
      subst hje
      obtain ⟨x0, x1, x2⟩ := HCX.out wr HB.out
      cases p with
      | true =>
        have he : os = add l ⟨xs, xb, xv, xa, xc⟩ := by have := HPT.out rfl; simpa using this
        have hln := HOL.out
        subst he
        go_wp2
        go_ret
        exact ⟨ra, rc, rfl, own_mono HO.out (by omega), HB0.out.trans (HB.out.mono (by omega))⟩
      | false =>
        have hpf := HPF.out rfl
        rw [List.take_length] at hpf
        have hln := HOL.out
        have hadd : add l ⟨xs, xb, xv, xa, xc⟩ = l ++ [⟨xs, xb, xv, xa, xc⟩] := add_last hpf.2
        have HADD := mkH hadd
        have HOS := mkH hpf.1
        have HSX := mkH (src1 wr ⟨xs, xb, xv, xa, xc⟩)
        clear hpf hadd
        go_wp2_with (at_builtin; refine wpList_append_own_src _ rfl (.tmp 59) (.tmp 61) 30 30 rfl w0.heap.size 38 (.agg #[.int .i64 0, .int .i64 0, .slice none 0 0]) 3 40 Try.underlying30 infoV rfl (by decide) _ n (Fx os) rfl (World.ownsRow.alloc HO.out _) _ 1 (Fx [⟨xs, xb, xv, xa, xc⟩]) rfl HSX.out (by unfold maxLen; omega) (by omega) (by simp; omega) ?_; intro v' w' ho' hg')
        obtain ⟨ra', rc', rfl, ho2, hb2⟩ := step_app HB.out hsw HO.out ho' hg'
        have HO' := mkH ho2
        have HB' := mkH hb2
        clear ho' hg' ho2 hb2
        have hl2 : (add l ⟨xs, xb, xv, xa, xc⟩).length = n + 1 := by rw [HADD.out, List.length_append, ← HOS.out, hln]; rfl
        have HL2 := mkH hl2
        clear hl2
        go_wp2
        go_ret
        rw [HL2.out]
        refine ⟨ra', rc', rfl, ?_, HB0.out.trans (HB'.out.mono (by omega))⟩
        rw [HADD.out, ← HOS.out]
        exact own_mono HO'.out (by omega)

set_option maxHeartbeats 4000000 in
theorem rmerge_any (w : World) (ao : Option Addr) (cap : Nat) (ls : List L) (h : RL w ao ls) (hn : (flat ls).length ≤ 900) (hls : ls.length ≤ 1000) :
    Calls Try.prog 23 #[.slice ao ls.length cap] w fun e w' => ∃ ra rc, e = .returned (.slice ra (mrg (flat ls)).length rc) ∧ RX w' ra (mrg (flat ls)) ∧ Below w.heap.size w w' := by
  have HR := mkH h
  clear h
  go_enter Try.func23, Try.ntmps23
  go_wp2_with fail
  go_loopw [3, 4] (fun mv i wr => ∃ (j n : Nat) (ra : Option Addr) (rc : Nat), j ≤ ls.length ∧ n ≤ 900 ∧ i = .int .i64 (j : Int) ∧ mv = .slice ra n rc ∧ Hid ((mrg (flat (ls.take j))).length = n) ∧ Hid (RowX wr ra (mrg (flat (ls.take j)))) ∧ Hid (Below w.heap.size w wr)) (fun _ i _ => ls.length - (intOf i).toNat)
  case atStart => exact ⟨0, 0, none, 0, Nat.zero_le _, by omega, rfl, rfl, rfl, mkH (RowS.nil _ _), mkH (Below.refl _ _)⟩
  case round =>
    obtain ⟨j, n, ra, rc, hj, hn9, rfl, rfl, HL, HO, HB⟩ := hrel
    rcases Nat.lt_or_ge j ls.length with hjl | hjl
    · obtain ⟨x, hx⟩ := some_of hjl
      have HX := mkH hx
      have HFS := mkH (flat_snoc hx)
      obtain ⟨xa, xl, xc⟩ := x
      have hfl := flat_len hx
      simp only at hfl HFS
      have hxl : xl.length ≤ 900 := by omega
      have HFL := mkH hfl
      clear hx hfl
      go_wp2_with fail
      generalize wr = wO at *
      go_loopw [3, 5] (fun mv i wr => ∃ (k n : Nat) (ra : Option Addr) (rc : Nat), k ≤ xl.length ∧ n ≤ 900 ∧ i = .int .i64 (k : Int) ∧ mv = .slice ra n rc ∧ Hid ((mrg (flat (ls.take j) ++ xl.take k)).length = n) ∧ Hid (RowX wr ra (mrg (flat (ls.take j) ++ xl.take k))) ∧ Hid (Below w.heap.size w wr)) (fun _ i _ => xl.length - (intOf i).toNat)
      case atStart => exact ⟨0, n, ra, rc, Nat.zero_le _, hn9, rfl, rfl, by simpa using HL, by simpa using HO, HB⟩
      case round =>
        clear HL HO HB
        obtain ⟨k, n, ra, rc, hk, hn9, rfl, rfl, HL, HO, HB⟩ := hrel
        obtain ⟨b, off, he0, hrx, hcx⟩ := RL.at (HR.out.below HB.out) HX.out
        subst he0
        simp only at hcx hrx
        rcases Nat.lt_or_ge k xl.length with hkl | hkl
        · obtain ⟨y, hy⟩ := some_of hkl
          obtain ⟨b2, off2, hxa, hok, c0, c1, c2⟩ := RX.at hrx hy
          subst hxa
          obtain ⟨m, hm⟩ : ∃ m, mrg (flat (ls.take j) ++ xl.take k) = m := ⟨_, rfl⟩
          have HST : Hid (mrg (flat (ls.take j) ++ xl.take (k + 1)) = add m y) := by
            show _ = _
            rw [take_snoc hy, ← List.append_assoc, mrg_snoc, hm]
          rw [hm] at HL HO
          have hml := HL.out
          have hal : (add m y).length ≤ 900 := by
            have h1 := mrg_len (flat (ls.take j) ++ xl.take (k + 1))
            have := HFL.out
            rw [HST.out, List.length_append, List.length_take] at h1
            omega
          have HML := mkH hml
          obtain ⟨ys, yb, yv, ya, yc⟩ := y
          simp only at c0 c1 c2
          have hsw : w.heap.size ≤ wr.heap.size := HB.out.size
          have HAD : Hid (Calls Try.prog 36 #[.slice ra n rc, .agg #[.int .i64 ys, .int .i64 yb, .slice ya yv.length yc]] wr fun e w' => ∃ ra' rc', e = .returned (.slice ra' (add m ⟨ys, yb, yv, ya, yc⟩).length rc') ∧ RowX w' ra' (add m ⟨ys, yb, yv, ya, yc⟩) ∧ Below wr.heap.size wr w') := by
            have := radd_any wr ra rc m ⟨ys, yb, yv, ya, yc⟩ HO.out (by omega)
            rw [hml] at this
            refine this.mono ?_
            rintro e w' ⟨ra', rc', rfl, h1, h2⟩
            exact ⟨ra', rc', rfl, RowS.own vC_len h1, h2⟩
          clear hml hm hy hok hrx
          go_wp2_with fail
          refine HAD.out.mono ?_
          rintro e w' ⟨ra', rc', rfl, h1, h2⟩
          obtain ⟨n', hn'⟩ : ∃ n', (add m ⟨ys, yb, yv, ya, yc⟩).length = n' := ⟨_, rfl⟩
          rw [hn'] at hal ⊢
          have HN' := mkH hn'
          have H1 := mkH h1
          have HB' : Hid (Below w.heap.size w w') := HB.out.trans (h2.mono hsw)
          clear hn' h1 h2 HAD
          go_wp2
          exact ⟨⟨k + 1, n', ra', rc', by omega, hal, by go_num, rfl, by show _ = _; rw [HST.out]; exact HN'.out, by show RowS _ _ _ _ _; rw [HST.out]; exact H1.out, HB'⟩, by simp [intOf]; omega⟩
        · have hke : k = xl.length := by omega
          subst hke
          rw [List.take_length] at HL HO
          clear hrx
          go_wp2
          exact ⟨⟨j + 1, n, ra, rc, by omega, hn9, by go_num, rfl, by show _ = _; rw [HFS.out]; exact HL.out, by show RowS _ _ _ _ _; rw [HFS.out]; exact HO.out, HB⟩, by simp [intOf]; omega⟩
    · have hje : j = ls.length := by omega
      subst hje
      rw [List.take_length] at HL HO
      go_wp2
      go_ret
      rw [HL.out]
      refine ⟨ra, rc, rfl, ⟨HO.out, fun y hy => ?_⟩, HB.out⟩
      obtain ⟨q, hq, hyq⟩ := List.mem_flatMap.1 (mrg_mem hy)
      exact ((HR.out.below HB.out).2 q hq).2 y hyq
end Go.Proofs.Ytaainjkhenenoaa.Bx
