/-
  addReal: what may be of some ranges, behind those that are there.
-/
import Derived.Test.YtabckkepkennhaaPlG
import Derived.Test.YtabckkepkennhaaKitV
namespace Go.Proofs.Ytabckkepkennhaa.Pa
open Go.RowKit Pl Pw Pr Pf
open Kt hiding mkH
open Kv
set_option linter.unusedVariables false
set_option maxRecDepth 20000

/-- A new row. -/
theorem Rw_new (w : World) (l : List Rg) (T : TypeId) : Rw (w.alloc (.cells (E l).toArray T)) (some ⟨w.heap.size, 0, none⟩) l := by
  intro _
  refine ⟨w.heap.size, 0, rfl, fun i r hr => ?_⟩
  have h : ∀ j u, (E l)[j]? = some u → (w.alloc (.cells (E l).toArray T)).cell? ⟨w.heap.size, j, none⟩ = some u := by
    intro j u hu
    have hn := heap_alloc_new w (.cells (E l).toArray T)
    simp only [World.cell?]
    rw [show (w.alloc (.cells (E l).toArray T)).heap[w.heap.size]? = _ from hn]
    simpa using hu
  rw [Nat.zero_add]
  exact ⟨h _ _ (E_at0 l i r hr), h _ _ (E_at1 l i r hr)⟩

/-- What appending to a row does to the world, and where the row lies then. -/
def Ext (w : World) (v : Value) (w' : World) (v' : Value) : Prop :=
  w.grownBy w' v.ownBlock ∧ (v'.ownBlock = v.ownBlock ∨ ∃ g, v'.ownBlock = some g ∧ w.heap.size ≤ g)
theorem Ext.refl (w : World) (v : Value) : Ext w v w v := ⟨⟨rfl, rfl, rfl, Nat.le_refl _, fun _ _ _ => rfl⟩, .inl rfl⟩
theorem Ext.trans {w w1 w2 : World} {v v1 v2 : Value} (h : Ext w v w1 v1) (k : Ext w1 v1 w2 v2) : Ext w v w2 v2 := by
  refine ⟨⟨k.1.os.trans h.1.os, k.1.tape.trans h.1.tape, k.1.output.trans h.1.output, Nat.le_trans h.1.size k.1.size, fun j hj hn => ?_⟩, ?_⟩
  · rw [k.1.block j (Nat.lt_of_lt_of_le hj h.1.size) ?_]
    · exact h.1.block j hj hn
    · rcases h.2 with e | ⟨g, e, hg⟩
      · rw [e]; exact hn
      · rw [e]; intro e2; injection e2 with e2; omega
  · rcases k.2 with e | ⟨g, e, hg⟩
    · rw [e]; exact h.2
    · exact .inr ⟨g, e, Nat.le_trans h.1.size hg⟩
theorem Ext.gr {w w1 w2 : World} {v v1 : Value} (h : Ext w v w1 v1) (k : Gr w1 w2) : Ext w v w2 v1 :=
  h.trans ⟨⟨k.below.os, k.below.tape, k.below.output, k.below.size, fun j hj _ => k.below.block j hj⟩, .inl rfl⟩
theorem Ext.at {w w1 w2 : World} {v v1 v2 : Value} (h : Ext w v w1 v1) (hg : w1.grownBy w2 v1.ownBlock) (hl : v2.ownBlock = v1.ownBlock ∨ v2.ownBlock = some w1.heap.size) : Ext w v w2 v2 :=
  h.trans ⟨hg, hl.imp id fun e => ⟨_, e, Nat.le_refl _⟩⟩
/-- What lies in another block stays. -/
theorem Ext.rw {w w' : World} {v v' : Value} {ao : Option Addr} {l : List Rg} (h : Ext w v w' v') (hr : Rw w ao l) (hs : ∀ a, ao = some a → v.ownBlock ≠ some a.block) : Rw w' ao l := by
  intro hl
  obtain ⟨b, off, rfl, hc⟩ := hr hl
  refine ⟨b, off, rfl, fun i r hi => ?_⟩
  have hb := World.block_lt_of_cell? w _ (hc i r hi).1
  have hk := h.1.block b hb (fun e => hs _ rfl e.symm)
  rw [World.cell?_of_block (w := w) (a := ⟨b, off + i * 2, none⟩) hk, World.cell?_of_block (w := w) (a := ⟨b, off + i * 2 + 1, none⟩) hk]
  exact hc i r hi
theorem Ext.below {w w' W : World} {v v' : Value} {B : Nat} (h : Ext w v w' v') (hb : Below B W w) (hB : B ≤ w.heap.size) (hv : ∀ k, v.ownBlock = some k → B ≤ k) : Below B W w' :=
  hb.grown h.1 hB hv
theorem Ow.ge {w : World} {base : Nat} {v : Value} {l : List Rg} (h : Ow w base v l) (k : Nat) (hk : v.ownBlock = some k) : base ≤ k ∧ k < w.heap.size := h.lt k hk

theorem real_snoc {s : List Rg} {k : Nat} {r : Rg} (h : s[k]? = some r) : real (s.take (k + 1)) = if may r = true then real (s.take k) ++ [r] else real (s.take k) := by
  unfold real
  rw [List.take_add_one, h, List.filter_append]
  by_cases hm : may r = true <;> simp [hm]

set_option maxHeartbeats 2000000 in
theorem addReal_any (w : World) (base : Nat) (v : Value) (l0 : List Rg) (hown : Ow w base v l0) (hbase : base ≤ w.heap.size) (ao : Option Addr) (cap : Nat) (s : List Rg) (hs : Rw w ao s) (hsep : ∀ a, ao = some a → v.ownBlock ≠ some a.block) (hlen : l0.length + s.length ≤ 1000000) :
    Calls Try.prog 88 #[v, .slice ao s.length cap] w fun e w' => ∃ v', e = .returned v' ∧ Ow w' base v' (l0 ++ real s) ∧ Ext w v w' v' := by
  go_enter Try.func88, Try.ntmps88
  go_wp2
  go_loopw [0, 9] (fun u i wr => ∃ k : Nat, k ≤ s.length ∧ i = .int .i64 k ∧ Ow wr base u (l0 ++ real (s.take k)) ∧ Ext w v wr u) (fun _ i _ => s.length - (intOf i).toNat)
  case atStart => exact ⟨0, Nat.zero_le _, rfl, by simpa [real] using hown, Ext.refl _ _⟩
  case round =>
    obtain ⟨k, hk, rfl, hO, hX⟩ := hrel
    by_cases hlt : k < s.length
    · obtain ⟨⟨r1, r2⟩, hrk⟩ := some_of hlt
      obtain ⟨b, o, rfl, hc⟩ := (hX.rw hs hsep) (by omega)
      obtain ⟨u1, u2⟩ := hc k _ hrk
      have HS := mkH (real_snoc hrk)
      have hi : (k : Int) < (s.length : Int) := by omega
      have hi0 : (0 : Int) ≤ (k : Int) := by omega
      have hm := fun W => may_any W r1 r2
      clear hc hrk hs hown
      have HX := mkH hX
      have HO := mkH hO
      clear hX hO
      cases hq : may (r1, r2)
      · rw [hq] at hm
        rw [hq] at HS
        go_wp2_with fail
        refine (hm _).mono ?_
        rintro e w1 ⟨rfl, rfl⟩
        have hgr := ((Gr.refl wr).alloc (.cells #[.int .i64 r1, .int .i64 r2] 29)).alloc (.cells #[.int .i64 r1, .int .i64 r2] 29)
        have hO1 := HO.out.below hgr.below
        have hX1 := HX.out.gr hgr
        have e1 := HS.out
        simp only [Bool.false_eq_true, if_false] at e1
        rw [← e1] at hO1
        clear e1 hgr HO HX HS u1 u2
        go_wp2
        go_roundw
        case rel => exact ⟨k + 1, by omega, by go_num, hO1, hX1⟩
        case measure => simp [intOf]; omega
      · rw [hq] at hm
        rw [hq] at HS
        have hn1 : (real (s.take k)).length ≤ k := by
          have h1 := List.length_filter_le may (s.take k)
          rw [List.length_take] at h1
          unfold real
          omega
        go_wp2_with fail
        refine (hm _).mono ?_
        rintro e w1 ⟨rfl, rfl⟩
        have hgr := ((Gr.refl wr).alloc (.cells #[.int .i64 r1, .int .i64 r2] 29)).alloc (.cells #[.int .i64 r1, .int .i64 r2] 29)
        have hgr2 := hgr.alloc (.cells #[.int .i64 r1, .int .i64 r2] 29)
        have hO1 := HO.out.below hgr2.below
        have hX1 := HX.out.gr hgr2
        have hsz := HX.out.1.size
        have hsrc : Src Try.prog 2 35 (.slice (some ⟨wr.heap.size + 1 + 1, 0, none⟩) 1 1) 1 (E [(r1, r2)]) (((wr.alloc (.cells #[.int .i64 r1, .int .i64 r2] 29)).alloc (.cells #[.int .i64 r1, .int .i64 r2] 29)).alloc (.cells #[.int .i64 r1, .int .i64 r2] 29)) := by
          have h1 := Rw.src (P := Try.prog) Try.underlying35 (Rw_new ((wr.alloc (.cells #[.int .i64 r1, .int .i64 r2] 29)).alloc (.cells #[.int .i64 r1, .int .i64 r2] 29)) [(r1, r2)] 29) 1
          rw [show ((wr.alloc (.cells #[.int .i64 r1, .int .i64 r2] 29)).alloc (.cells #[.int .i64 r1, .int .i64 r2] 29)).heap.size = wr.heap.size + 1 + 1 by simp] at h1
          exact h1
        have HSRC := mkH hsrc
        clear hsrc
        have HN : Hid (l0 ++ real (s.take (k + 1)) = (l0 ++ real (s.take k)) ++ [(r1, r2)]) := mkH (by
          have e1 := HS.out
          simp only [if_true] at e1
          rw [e1, List.append_assoc])
        have hlen2 : (l0 ++ real (s.take k)).length ≤ l0.length + k := by rw [List.length_append]; omega
        clear HO HX HS u1 u2 hgr hgr2
        generalize l0 ++ real (s.take k) = L at hO1 HN hlen2
        go_wp2_with (at_builtin; refine (wpList_append_own_src_at _ rfl (.tmp 15) (.tmp 17) 35 35 rfl base 29 (.agg #[.int .i64 0, .int .i64 0]) 2 16 Try.underlying35 info26 rfl (by decide) _ L.length (E L) rfl hO1 _ 1 (E [(r1, r2)]) rfl ?hsrc ?h63 ?hby ?hbs ?_))
        case hsrc => exact HSRC.out
        case h63 => unfold maxLen; omega
        case hby => omega
        case hbs => simp; omega
        intro v2 w2 hown2 hgrow2 hlies
        have hO2 : Ow w2 base v2 (l0 ++ real (s.take (k + 1))) := by
          rw [HN.out]
          unfold Ow
          rw [E_append, List.length_append]
          exact hown2
        have hX2 := hX1.at hgrow2 (by simpa using hlies)
        clear hown2 hgrow2 hlies hO1 hX1 HSRC HN hlen2
        go_wp2
        go_roundw
        case rel => exact ⟨k + 1, by omega, by go_num, hO2, hX2⟩
        case measure => simp [intOf]; omega
    · have : k = s.length := by omega
      subst this
      rw [List.take_length] at hO
      clear hs hown
      go_wp2
      go_ret
      exact ⟨_, rfl, hO, hX⟩
end Go.Proofs.Ytabckkepkennhaa.Pa
