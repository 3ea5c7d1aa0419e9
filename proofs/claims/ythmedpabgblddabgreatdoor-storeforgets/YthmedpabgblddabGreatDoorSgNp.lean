/-
  What a crash left of segments, gone through one by one.
-/
import Derived.Test.YthmedpabgblddabGreatDoorSgM
namespace Go.Proofs.YthmedpabgblddabGreatDoor.Sn
open Go.RowKit Go.Shelf Kt Cs Cf Cg Ck Cv Ca Dk Dp Da Db Dc Dd De Sq Sr Sa Sb Sc Se Sf Sh Si Sj Sk Sl Sm Pl
set_option linter.unusedVariables false
attribute [local go_sem] Oper.semAt_some

/-- The bytes that a crash left of a segment. -/
noncomputable def X (p : Int × Int) (s : Sg) : List UInt8 := fcat ((bod s).take (lj s p)) ++ tl s p
noncomputable def xs (p : Int × Int) (s : Sg) : St := ⟨X p s, [], false⟩
theorem X_len {p : Int × Int} {s : Sg} (h : Fits s) : (X p s).length ≤ 422300 := by
  have h1 := (left_is h p).2.2.1
  have h2 := h.dlen (some p)
  unfold X
  rw [← h1, List.length_append]; exact h2
/-- All segments ahead of i are whole. -/
def Full (per : Nat) (p : Int × Int) (segs : List Sg) (i : Nat) : Prop := ∀ j s, j < i → segs[j]? = some s → lj s p = per + 1 ∧ tl s p = []
theorem rs_full {per : Nat} {p : Int × Int} : ∀ {segs : List Sg} {i : Nat}, Full per p segs i → rs per p segs = (segs.take i).map (fun s => lft s p) ++ rs per p (segs.drop i)
  | [], i, _ => by simp [rs]
  | s :: l, 0, _ => by simp
  | s :: l, i + 1, h => by
    have h0 := h 0 s (by omega) rfl
    rw [rs, if_neg (by omega), if_pos ⟨h0.2, h0.1⟩, rs_full (segs := l) (i := i) (fun j t hj ht => h (j + 1) t (by omega) (by simpa using ht))]
    simp
theorem lft_full {per : Nat} {p : Int × Int} {segs : List Sg} {i : Nat} (hf : Full per p segs i) (hfit : ∀ s ∈ segs, Fits s) : ((segs.take i).map (fun s => lft s p)).map (dst none) = (segs.take i).map (xs p) := by
  rw [List.map_map]
  apply List.map_congr_left
  intro s hs
  obtain ⟨j, hj⟩ := List.mem_iff_getElem?.1 hs
  rw [List.getElem?_take] at hj
  split at hj
  · rename_i hji
    have h0 := hf j s hji hj
    have hfs := hfit s (List.mem_of_getElem? hj)
    simp only [Function.comp, dst_lft hfs p (by omega), xs, X, h0.2, List.append_nil]
  · cases hj
/-- .. their numbers. -/
theorem full_nums {per : Nat} {p : Int × Int} {segs : List Sg} {i : Nat} (hch : Chn per segs) (hf : Full per p segs i) (hfit : ∀ s ∈ segs, Fits s) (hi : i ≤ segs.length) : bas ((segs.take i).map (fun s => lft s p)) = (if i = 0 then 0 else bas segs) ∧ top ((segs.take i).map (fun s => lft s p)) = (if i = 0 then 0 else bas segs + i * per) := by
  by_cases h0 : i = 0
  · subst h0; simp [bas, top]
  · rw [if_neg h0, if_neg h0]
    obtain ⟨j, rfl⟩ : ∃ j, i = j + 1 := ⟨i - 1, by omega⟩
    have hjl : j < segs.length := by omega
    have hs : segs[j]? = some segs[j] := List.getElem?_eq_getElem hjl
    constructor
    · cases segs with
      | nil => simp at hjl
      | cons s l => rfl
    · have e : (segs.take (j + 1)).map (fun s => lft s p) = (segs.take j).map (fun s => lft s p) ++ [lft segs[j] p] := by
        rw [List.take_add_one, hs, List.map_append]; rfl
      have h1 := hf j _ (by omega) hs
      have h2 := (hch.at j _ hs).1
      have h3 := (left_is (hfit _ (List.mem_of_getElem? hs)) p).2.1
      rw [e, top_snoc]
      simp only [lft, List.length_take, h1.1, Nat.add_sub_cancel, h2, Nat.add_mul]
      omega

structure Ct (w : World) (F FD : Nat → Prop) (B per : Nat) (v : Value) (Ps : List Nat) (segs : List Sg) (p : Int × Int) (base next lef : Nat) (Ds : List Nat) (W : World) : Prop where
  lr : Lr W F FD B per false v base next 0 Ps
  sk : Sk W FD Ps (segs.map (xs p))
  fr : Fr (fun q => q = B) w W
  b1 : W.heap[w.heap.size]? = some (.cells #[.pointer (some ⟨B, 0, none⟩)] 44 (0, 0))
  b2 : W.heap[w.heap.size + 1]? = some (.cells #[.int .i64 (lef : Int)] 3 (0, 0))
  mks : Mk Ds W
  mlo : ∀ D ∈ Ds, w.heap.size ≤ D


theorem Ct.keep {w : World} {F FD : Nat → Prop} {B per : Nat} {v : Value} {Ps : List Nat} {segs : List Sg} {p : Int × Int} {base next lef : Nat} {Ds : List Nat} {W W' : World} {Q : Nat → Prop} (h : Ct w F FD B per v Ps segs p base next lef Ds W) (hF : ∀ q, F q → q < w.heap.size) (hf : Fr Q W W')
    (hq : ∀ q, Q q → w.heap.size ≤ q ∧ q ∉ Ds ∧ ∀ o : Obj, W.heap[q]? = some o → o.isCells = false) : Ct w F FD B per v Ps segs p base next lef Ds W' := by
  have hc : ∀ (k : Nat) (o : Obj), W.heap[k]? = some o → o.isCells = true → W'.heap[k]? = some o := fun k o hk ho => (hf.heap (block_lt hk) (fun x => by have := (hq k x).2.2 o hk; rw [ho] at this; cases this)).trans hk
  have hnF : ∀ q, Q q → ¬ F q := fun q x y => by have := hF q y; have := (hq q x).1; omega
  exact ⟨h.lr.fr hf hnF, h.sk.fr hf (fun k hk x => hnF k x (h.lr.fd k hk).1), h.fr.trans hf (fun q x => .inr (hq q x).1), hc _ _ h.b1 rfl, hc _ _ h.b2 rfl, ⟨h.mks.1, fun D hD => (hf.heap (block_lt (h.mks.2 D hD)) (fun x => (hq D x).2.1 hD)).trans (h.mks.2 D hD)⟩, h.mlo⟩
theorem Ct.below {w : World} {F FD : Nat → Prop} {B per : Nat} {v : Value} {Ps : List Nat} {segs : List Sg} {p : Int × Int} {base next lef : Nat} {Ds : List Nat} {W W' : World} (h : Ct w F FD B per v Ps segs p base next lef Ds W) (hF : ∀ q, F q → q < w.heap.size) (hb : Below W.heap.size W W') : Ct w F FD B per v Ps segs p base next lef Ds W' := h.keep (Q := fun _ => False) hF (Fr.ofBelow hb) (fun _ x => x.elim)
/-- A number of the log is written. -/
theorem Ct.num {w : World} {F FD : Nat → Prop} {B per : Nat} {v : Value} {Ps : List Nat} {segs : List Sg} {p : Int × Int} {base next lef : Nat} {Ds : List Nat} {W : World} (h : Ct w F FD B per v Ps segs p base next lef Ds W) (hB : B < w.heap.size) (i : Nat) (u : Value) (base' next' : Nat) (hl : Lr (W.setCell ⟨B, i, none⟩ u) F FD B per false v base' next' 0 Ps) : Ct w F FD B per v Ps segs p base' next' lef Ds (W.setCell ⟨B, i, none⟩ u) := by
  have hf := lr_set h.lr i u
  exact ⟨hl, Sk.lr h.sk h.lr i u, h.fr.trans hf (fun q x => .inl x), (hf.heap (block_lt h.b1) (by omega)).trans h.b1, (hf.heap (block_lt h.b2) (by omega)).trans h.b2, ⟨h.mks.1, fun D hD => (hf.heap (block_lt (h.mks.2 D hD)) (by have := h.mlo D hD; omega)).trans (h.mks.2 D hD)⟩, h.mlo⟩
/-- What is left is counted. -/
theorem Ct.lef {w : World} {F FD : Nat → Prop} {B per : Nat} {v : Value} {Ps : List Nat} {segs : List Sg} {p : Int × Int} {base next lef : Nat} {Ds : List Nat} {W : World} (h : Ct w F FD B per v Ps segs p base next lef Ds W) (hF : ∀ q, F q → q < w.heap.size) (m : Nat) : Ct w F FD B per v Ps segs p base next m Ds (W.setCell ⟨w.heap.size + 1, 0, none⟩ (.int .i64 (m : Int))) ∧ Fr (fun q => q = w.heap.size + 1) W (W.setCell ⟨w.heap.size + 1, 0, none⟩ (.int .i64 (m : Int))) := by
  have hs := setCell_eq_setRow W (w.heap.size + 1) 0 _ _ (0, 0) (.int .i64 (m : Int)) h.b2
  have hf : Fr (fun q => q = w.heap.size + 1) W (W.setCell ⟨w.heap.size + 1, 0, none⟩ (.int .i64 (m : Int))) := by
    rw [hs]; exact (Fr.refl (fun k => k = w.heap.size + 1) W).setRow (b := w.heap.size + 1) (.inl rfl) _
  have hnF : ∀ q, q = w.heap.size + 1 → ¬ F q := fun q x y => by have := hF q y; omega
  refine ⟨⟨h.lr.fr hf hnF, h.sk.fr hf (fun k hk x => hnF k x (h.lr.fd k hk).1), h.fr.trans hf (fun q x => .inr (by omega)), (hf.heap (block_lt h.b1) (by omega)).trans h.b1, by rw [hs]; exact setRow_heap _ _ _ _ _ _ h.b2, ⟨h.mks.1, fun D hD => (hf.heap (block_lt (h.mks.2 D hD)) (fun e => ?_)).trans (h.mks.2 D hD)⟩, h.mlo⟩, hf⟩
  have := h.mks.2 D hD
  rw [e, h.b2] at this
  cases this
/-- The number behind the last record of a segment whose first frame has come. -/
def nxt (segs : List Sg) (per i : Nat) (s : Sg) (k : Nat) : Nat := if k = 0 then (if i = 0 then 0 else bas segs + i * per) else s.first + (k - 1)
def bse (segs : List Sg) (i k : Nat) : Nat := if k = 0 then (if i = 0 then 0 else bas segs) else bas segs
def lfc (i k : Nat) : Nat := if k = 0 then i else i + 1

/-- Where it ends within the segments. -/
theorem cut_end {per : Nat} {p : Int × Int} {segs : List Sg} {i : Nat} {s : Sg} (hch : Chn per segs) (hfit : ∀ s ∈ segs, Fits s) (hf : Full per p segs i) (hs : segs[i]? = some s) (hg : ¬ (tl s p = [] ∧ lj s p = per + 1)) :
    lfc i (lj s p) = (rs per p segs).length ∧ bse segs i (lj s p) = bas (rs per p segs) ∧ nxt segs per i s (lj s p) = top (rs per p segs) ∧
    ((segs.map (xs p)).set i (cutS (xs p s) ((fcat ((bod s).take (lj s p))).length : Nat))).take (lfc i (lj s p)) = (rs per p segs).map (dst none) := by
  have hil : i < segs.length := (List.getElem?_eq_some_iff.1 hs).1
  have hfs := hfit s (List.mem_of_getElem? hs)
  have hfi : s.first = bas segs + i * per := (hch.at i s hs).1
  have hnf := full_nums hch hf hfit (by omega)
  have hlf := lft_full hf hfit
  have hrs := rs_full hf
  have hdr : segs.drop i = s :: segs.drop (i + 1) := by
    rw [← List.getElem_cons_drop hil]
    congr 1
    exact (List.getElem?_eq_some_iff.1 hs).2
  have htl : ((segs.take i).map (fun s => lft s p)).length = i := by rw [List.length_map, List.length_take]; omega
  rw [hdr] at hrs
  by_cases hj : lj s p = 0
  · rw [rs, if_pos hj, List.append_nil] at hrs
    rw [hrs]
    have e1 : lfc i (lj s p) = i := by unfold lfc; rw [if_pos hj]
    refine ⟨by rw [e1, htl], ?_, ?_, ?_⟩
    · unfold bse; rw [if_pos hj]; exact hnf.1.symm
    · unfold nxt; rw [if_pos hj]; exact hnf.2.symm
    · rw [e1, List.take_set_of_le (Nat.le_refl _), ← List.map_take, hlf]
  · rw [rs, if_neg hj, if_neg hg] at hrs
    rw [hrs]
    have e1 : lfc i (lj s p) = i + 1 := by unfold lfc; rw [if_neg hj]
    have h2 := (left_is hfs p).2.1
    refine ⟨by rw [e1, List.length_append, htl]; rfl, ?_, ?_, ?_⟩
    · unfold bse
      rw [if_neg hj]
      by_cases h0 : i = 0
      · subst h0
        show bas segs = s.first
        rw [hfi]; simp
      · have := hnf.1
        rw [if_neg h0] at this
        rw [← this]
        obtain ⟨j, rfl⟩ : ∃ j, i = j + 1 := ⟨i - 1, by omega⟩
        cases segs with
        | nil => simp at hil
        | cons t ts => rfl
    · unfold nxt
      rw [if_neg hj, top_snoc]
      simp only [lft, List.length_take]
      omega
    · rw [e1, List.take_add_one, List.getElem?_set_self (by rw [List.length_map]; exact hil), List.take_set_of_le (Nat.le_refl _), ← List.map_take, List.map_append, hlf]
      congr 1
      simp only [Option.toList, List.map_cons, List.map_nil]
      rw [← cut_lft hfs p hj]
      rfl

/-- The end of count: the marks are taken, the answer is read. -/
theorem count_leaves {w W : World} {F F' FD' : Nat → Prop} {B per : Nat} {v : Value} {Ps : List Nat} {segs : List Sg} {p : Int × Int} {m bR tR : Nat} {Ds : List Nat} {tmps : Array Value} {ss' : List St} (hR : m = (rs per p segs).length) (hb : bR = bas (rs per p segs)) (ht : tR = top (rs per p segs))
    (lr : Lr W F' FD' B per false v bR tR 0 Ps) (sk : Sk W FD' Ps ss') (tk : ss'.take m = (rs per p segs).map (dst none)) (nx : Nx F w W F') (b2 : W.heap[w.heap.size + 1]? = some (.cells #[.int .i64 (m : Int)] 3 (0, 0))) (hF2 : ¬ F' (w.heap.size + 1)) (mks : Mk Ds W) (mlo : ∀ D ∈ Ds, w.heap.size ≤ D) (mF : ∀ D ∈ Ds, ¬ F' D)
    (htm : tmps.getD 2 undef = .pointer (some ⟨w.heap.size + 1, 0, none⟩)) :
    LeavesInM Fence.wide 11 Tryz.prog Tryz.f50 tmps (fun e w' => e = .returned (.int .i64 ((rs per p segs).length : Int)) ∧ ∃ F' FD' ss', Lr w' F' FD' B per false v (bas (rs per p segs)) (top (rs per p segs)) 0 Ps ∧ Sk w' FD' Ps ss' ∧ ss'.take (rs per p segs).length = (rs per p segs).map (dst none) ∧ Nx F w w' F')
      (Ds.map dfr) .returning (W.setCell ⟨w.heap.size + 1, 0, none⟩ (.int .i64 (m : Int))) := by
  have hs := setCell_eq_setRow W (w.heap.size + 1) 0 _ _ (0, 0) (.int .i64 (m : Int)) b2
  have hf : Fr (fun q => q = w.heap.size + 1) W (W.setCell ⟨w.heap.size + 1, 0, none⟩ (.int .i64 (m : Int))) := by
    rw [hs]; exact (Fr.refl (fun k => k = w.heap.size + 1) W).setRow (b := w.heap.size + 1) (.inl rfl) _
  have b2' : (W.setCell ⟨w.heap.size + 1, 0, none⟩ (.int .i64 (m : Int))).heap[w.heap.size + 1]? = some (.cells #[.int .i64 (m : Int)] 3 (0, 0)) := by rw [hs]; exact setRow_heap _ _ _ _ _ _ b2
  have hDne : ∀ D ∈ Ds, D ≠ w.heap.size + 1 := fun D hD e => by
    have := mks.2 D hD
    rw [e, b2] at this
    cases this
  generalize W.setCell ⟨w.heap.size + 1, 0, none⟩ (.int .i64 (m : Int)) = W2 at hf b2'
  refine leaves_marks Ds W2 ⟨mks.1, fun D hD => (hf.heap (block_lt (mks.2 D hD)) (hDne D hD)).trans (mks.2 D hD)⟩ (fun W' hm => ?_)
  have hfe : Fr (fun q => q = w.heap.size + 1 ∨ q ∈ Ds) W W' := (hf.mono (fun q x => .inl x)).trans hm (fun q x => .inl (.inr x))
  have hq : ∀ q, (q = w.heap.size + 1 ∨ q ∈ Ds) → ¬ F' q := fun q x => by
    rcases x with x | x
    · rw [x]; exact hF2
    · exact mF q x
  have hc : W'.cell? ⟨w.heap.size + 1, 0, none⟩ = some (.int .i64 (m : Int)) := by
    rw [cell_of_row _ _ _ _ _ _ ((hm.heap (block_lt b2') (fun x => hDne _ x rfl)).trans b2')]; rfl
  refine ⟨.int .i64 (m : Int), ?_, by rw [hR], F', FD', ss', ?_, ?_, by rw [← hR]; exact tk, ?_⟩
  · have htm2 : tmps[2]?.getD undef = .pointer (some ⟨w.heap.size + 1, 0, none⟩) := by simpa using htm
    simp [results, Tryz.f50, go_sem, htm2, hc]
  · rw [← hb, ← ht]; exact lr.fr hfe hq
  · exact sk.fr hfe (fun k hk x => hq k x (lr.fd k hk).1)
  · exact ⟨nx.1.trans hfe (fun q x => by rcases x with x | x; exact .inr (by omega); exact .inr (mlo q x)), nx.2⟩
end Go.Proofs.YthmedpabgblddabGreatDoor.Sn
