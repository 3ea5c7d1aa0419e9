/-
  What each call does to a log's plain state, and that what holds of every log stays. Nothing of the program.
-/
import Derived.Test.YthmedpabgblddabGreatDoorSgQ
namespace Go.Proofs.YthmedpabgblddabGreatDoor.Sr
open Go.RowKit Kt Cs Cw Cf Cn Cg Ca Dp Sp Pl Sq
set_option linter.unusedVariables false

theorem bod_len (s : Sg) : (bod s).length = s.recs.length + 1 := by simp [bod]
/-! The disks. -/
theorem dst_app {s : Sg} (h : kn s ≤ s.recs.length + 1) (r : List UInt8) (hl : (fcat (bod s)).length + (12 + r.length) ≤ 4194304) : appS (dst none s) (Cp.frame r) = dst none ⟨s.first, s.recs ++ [r], s.kept⟩ ∧ appE (dst none s) (Cp.frame r).length = 0 := by
  have hx : (kb s).length + (rb s).length = (fcat (bod s)).length := by rw [← kb_rb, List.length_append]
  have e : bod ⟨s.first, s.recs ++ [r], s.kept⟩ = bod s ++ [r] := by simp [bod]
  have ek : kn ⟨s.first, s.recs ++ [r], s.kept⟩ = kn s := rfl
  constructor
  · unfold appS
    rw [if_neg (by simp [dst]), if_neg (by simp only [dst, Sp.frame_pos]; omega)]
    simp only [dst, kb, rb, e, ek]
    rw [List.take_append_of_le_length (by rw [bod_len]; exact h), List.drop_append_of_le_length (by rw [bod_len]; exact h), fcat_snoc]
  · unfold appE
    rw [if_neg (by simp [dst]), if_neg (by simp only [dst, Sp.frame_pos]; omega)]
theorem dst_new (n : Nat) (hn : n ≤ 4611686018427387904) (r : List UInt8) (hl : r.length ≤ 65536) : appS Dp.new (Cp.frame (enc n) ++ Cp.frame r) = dst none ⟨n, [r], none⟩ ∧ appE Dp.new (Cp.frame (enc n) ++ Cp.frame r).length = 0 := by
  have h9 := enc_len9 hn
  have hf : ¬ 4194304 < Dp.new.kept.length + Dp.new.rest.length + (Cp.frame (enc n) ++ Cp.frame r).length := by simp only [Dp.new, List.length_nil, List.length_append, Sp.frame_pos]; omega
  constructor
  · unfold appS
    rw [if_neg (by simp [Dp.new]), if_neg hf]
    simp [Dp.new, dst, kb, rb, kn, bod, fcat]
  · unfold appE
    rw [if_neg (by simp [Dp.new]), if_neg hf]
def syg (s : Sg) : Sg := ⟨s.first, s.recs, some s.recs.length⟩
theorem dst_syn (s : Sg) : synS (dst none s) = dst none (syg s) := by
  have e : bod (syg s) = bod s := rfl
  have ek : kn (syg s) = s.recs.length + 1 := rfl
  have h1 := kb_rb s
  simp only [synS, dst, Bool.false_eq_true, if_false, kb, rb, e, ek] at h1 ⊢
  rw [h1, ← bod_len s, List.take_length, List.drop_length]
  rfl
theorem dst_crs (s : Sg) (k f : Int) (hk : 0 ≤ k) : crsS (dst none s) k f = dst (some (k, f)) s := by
  simp [crsS, dst, show ¬ k < 0 by omega]
theorem dst_rst {s : Sg} (h : Fits s) (p : Int × Int) : rstS (dst (some p) s) = ⟨fcat ((bod s).take (lj s p)) ++ tl s p, [], false⟩ := by
  have h3 := (left_is h p).2.2.1
  have hd : (dst (some p) s).down = true := rfl
  unfold rstS
  rw [hd, if_pos rfl, h3]
theorem bod_lft {s : Sg} (p : Int × Int) (hj : lj s p ≠ 0) : bod (lft s p) = (bod s).take (lj s p) := by
  obtain ⟨j, hj2⟩ : ∃ j, lj s p = j + 1 := ⟨lj s p - 1, by omega⟩
  simp [bod, lft, hj2]
theorem dst_lft {s : Sg} (h : Fits s) (p : Int × Int) (hj : lj s p ≠ 0) : dst none (lft s p) = ⟨fcat ((bod s).take (lj s p)), [], false⟩ := by
  have ek : kn (lft s p) = lj s p := by simp only [kn, lft]; omega
  have h2 := (left_is h p).2.1
  have hl : ((bod s).take (lj s p)).length = lj s p := by rw [List.length_take, bod_len]; omega
  simp only [dst, kb, rb, bod_lft p hj, ek]
  rw [List.take_of_length_le (by omega), List.drop_eq_nil_of_le (by omega)]
  rfl
theorem cut_lft {s : Sg} (h : Fits s) (p : Int × Int) (hj : lj s p ≠ 0) : cutS ⟨fcat ((bod s).take (lj s p)) ++ tl s p, [], false⟩ ((fcat ((bod s).take (lj s p))).length : Nat) = dst none (lft s p) := by
  rw [dst_lft h p hj]
  unfold cutS
  rw [if_neg (by simp), if_neg (by simp only [List.length_append, List.length_nil]; omega)]
  simp

/-! What a call leaves. -/
def isFull (h : H) : Bool := match h.segs.getLast? with | none => true | some s => decide (h.per ≤ s.recs.length)
def app (h : H) (r : List UInt8) : H :=
  match h.segs.getLast? with
  | none => { h with segs := [⟨0, [r], none⟩] }
  | some s => if h.per ≤ s.recs.length then (if h.segs.length = 256 then h else { h with segs := h.segs ++ [⟨top h.segs, [r], none⟩] }) else { h with segs := h.segs.dropLast ++ [⟨s.first, s.recs ++ [r], s.kept⟩] }
def appErr (h : H) : Int := if isFull h ∧ h.segs.length = 256 then 7 else 0
def syn (h : H) : H := { h with segs := h.segs.map syg, safe := top h.segs }
def gone (h : H) (n : Int) : Nat := if n ≤ bas h.segs then 0 else min ((n.toNat - bas h.segs) / h.per) (h.segs.length - 1)
def dro (h : H) (n : Int) : H := if (h.safe : Int) < n then h else { h with segs := h.segs.drop (gone h n) }
def crs (h : H) (k f : Int) : H := if k < 0 then h else { h with dn := some (k, f) }
noncomputable def rst (h : H) : H := match h.dn with | none => h | some p => ⟨h.per, rs h.per p h.segs, top (rs h.per p h.segs), none⟩

theorem snoc_of {α : Type} {l : List α} (h : l ≠ []) : ∃ i s, l = i ++ [s] := ⟨l.dropLast, l.getLast h, (List.dropLast_concat_getLast h).symm⟩
/-- Append, as the two cases are. -/
theorem app_nil {h : H} (r : List UInt8) (h0 : h.segs = []) : app h r = { h with segs := [⟨0, [r], none⟩] } := by simp [app, h0]
theorem app_snoc {h : H} (r : List UInt8) {i : List Sg} {s : Sg} (h0 : h.segs = i ++ [s]) : app h r = if h.per ≤ s.recs.length then (if h.segs.length = 256 then h else { h with segs := h.segs ++ [⟨top h.segs, [r], none⟩] }) else { h with segs := i ++ [⟨s.first, s.recs ++ [r], s.kept⟩] } := by
  simp [app, h0]
theorem Inv.app {N : Nat} {h : H} (hi : Inv N h) (hN : N + 1 ≤ 1000000) {r : List UInt8} (hr : r.length ≤ 400) : Inv (N + 1) (Sr.app h r) := by
  have hp1 := hi.p1
  have hp2 := hi.p2
  by_cases h0 : h.segs = []
  · rw [app_nil r h0]
    have hs : h.safe = 0 := by have := hi.hi; rw [h0] at this; simpa [top] using this
    have ht : top [(⟨0, [r], none⟩ : Sg)] = 1 := by simp [top]
    refine ⟨hi.p1, hi.p2, by simp, ?_, ?_, ?_, ?_, ?_, ?_⟩
    · show Chn h.per [(⟨0, [r], none⟩ : Sg)]
      exact hp1
    · intro s hs'
      simp only [List.mem_singleton] at hs'
      subst hs'
      exact ⟨by simp, by simp, by simpa using hr, by simp [kn]⟩
    · intro s hs'
      simp only [List.mem_singleton] at hs'
      subst hs'
      exact .inl ⟨rfl, by rw [hs]; exact Nat.le_refl _, by simp⟩
    · exact Nat.zero_le _
    · show h.safe ≤ top [(⟨0, [r], none⟩ : Sg)]
      omega
    · show top [(⟨0, [r], none⟩ : Sg)] ≤ N + 1
      omega
  · obtain ⟨i, s, h1⟩ := snoc_of h0
    rw [app_snoc r h1]
    have hch := hi.ch
    have hhi := hi.hi
    have hto := hi.top
    have hsl := (by rw [h1] at hch; exact hch.last : s.recs.length ≤ h.per)
    have hst : top h.segs = s.first + s.recs.length := by rw [h1, top_snoc]
    have hsm : s ∈ h.segs := by rw [h1]; simp
    have hfs := hi.fits s hsm
    split
    · rename_i hf
      split
      · exact ⟨hi.p1, hi.p2, hi.n, hi.ch, hi.fits, hi.kept, hi.lo, hi.hi, by omega⟩
      · rename_i hn
        have hn2 := hi.n
        have ht : top (h.segs ++ [(⟨top h.segs, [r], none⟩ : Sg)]) = top h.segs + 1 := by rw [top_snoc]; simp
        refine ⟨hi.p1, hi.p2, by simp; omega, ?_, ?_, ?_, ?_, ?_, ?_⟩
        · show Chn h.per (h.segs ++ [(⟨top h.segs, [r], none⟩ : Sg)])
          rw [h1] at hch ⊢
          refine hch.snoc (by omega) ?_ hp1
          show top (i ++ [s]) = s.first + h.per
          rw [top_snoc]; omega
        · intro t ht'
          rcases List.mem_append.1 ht' with x | x
          · exact hi.fits t x
          · simp only [List.mem_singleton] at x
            subst x
            exact ⟨by show top h.segs ≤ 1000000; omega, by simp, by simpa using hr, by simp [kn]⟩
        · intro t ht'
          rcases List.mem_append.1 ht' with x | x
          · exact hi.kept t x
          · simp only [List.mem_singleton] at x
            subst x
            exact .inl ⟨rfl, hhi, by simp⟩
        · show bas (h.segs ++ [(⟨top h.segs, [r], none⟩ : Sg)]) ≤ h.safe
          have := hi.lo
          rw [h1] at this ⊢
          cases i with
          | nil => exact this
          | cons t i => exact this
        · show h.safe ≤ top (h.segs ++ [(⟨top h.segs, [r], none⟩ : Sg)])
          omega
        · show top (h.segs ++ [(⟨top h.segs, [r], none⟩ : Sg)]) ≤ N + 1
          omega
    · rename_i hf
      have ht : top (i ++ [(⟨s.first, s.recs ++ [r], s.kept⟩ : Sg)]) = top h.segs + 1 := by rw [top_snoc, hst]; simp; omega
      refine ⟨hi.p1, hi.p2, by have := hi.n; rw [h1] at this; simpa using this, ?_, ?_, ?_, ?_, ?_, ?_⟩
      · show Chn h.per (i ++ [(⟨s.first, s.recs ++ [r], s.kept⟩ : Sg)])
        rw [h1] at hch
        exact hch.set rfl (by simp; omega)
      · intro t ht'
        rcases List.mem_append.1 ht' with x | x
        · exact hi.fits t (by rw [h1]; simp [x])
        · simp only [List.mem_singleton] at x
          subst x
          refine ⟨hfs.1, by simp; omega, ?_, ?_⟩
          · intro q hq
            rcases List.mem_append.1 hq with y | y
            · exact hfs.2.2.1 q y
            · simp only [List.mem_singleton] at y; subst y; exact hr
          · have := hfs.2.2.2
            show kn s ≤ _
            simp; omega
      · intro t ht'
        rcases List.mem_append.1 ht' with x | x
        · exact hi.kept t (by rw [h1]; simp [x])
        · simp only [List.mem_singleton] at x
          subst x
          rcases hi.kept s hsm with ⟨a, b, c⟩ | ⟨a, b⟩
          · exact .inl ⟨a, b, by simp⟩
          · refine .inr ⟨a, ?_⟩
            show s.kept = _
            rw [b]
            congr 1
            simp
            omega
      · show bas (i ++ [(⟨s.first, s.recs ++ [r], s.kept⟩ : Sg)]) ≤ h.safe
        have := hi.lo
        rw [h1] at this
        cases i with
        | nil => exact this
        | cons t i => exact this
      · show h.safe ≤ top (i ++ [(⟨s.first, s.recs ++ [r], s.kept⟩ : Sg)])
        omega
      · show top (i ++ [(⟨s.first, s.recs ++ [r], s.kept⟩ : Sg)]) ≤ N + 1
        omega

theorem top_map (l : List Sg) (f : Sg → Sg) (hf : ∀ s, (f s).first = s.first ∧ (f s).recs = s.recs) : top (l.map f) = top l := by
  unfold top
  rw [List.getLast?_map]
  cases l.getLast? with
  | none => rfl
  | some s => simp [(hf s).1, (hf s).2]
theorem Chn.map {per : Nat} (f : Sg → Sg) (hf : ∀ s, (f s).first = s.first ∧ (f s).recs = s.recs) : ∀ {l : List Sg}, Chn per l → Chn per (l.map f)
  | [], _ => trivial
  | [s], h => by
    show (f s).recs.length ≤ per
    rw [(hf s).2]; exact h
  | s :: t :: l, h => by
    refine ⟨?_, ?_, Chn.map f hf (l := t :: l) h.2.2⟩
    · rw [(hf s).2]; exact h.1
    · rw [(hf s).1, (hf t).1]; exact h.2.1
theorem bas_map (l : List Sg) (f : Sg → Sg) (hf : ∀ s, (f s).first = s.first ∧ (f s).recs = s.recs) : bas (l.map f) = bas l := by
  cases l with
  | nil => rfl
  | cons s l => exact (hf s).1
theorem bas_top {per : Nat} {l : List Sg} (h : Chn per l) : bas l ≤ top l := by rw [top_all0 h]; omega
theorem syg_ok (s : Sg) : (syg s).first = s.first ∧ (syg s).recs = s.recs := ⟨rfl, rfl⟩
theorem Inv.syn {N : Nat} {h : H} (hi : Inv N h) : Inv N (Sr.syn h) := by
  refine ⟨hi.p1, hi.p2, by simpa [Sr.syn] using hi.n, Chn.map syg syg_ok hi.ch, ?_, ?_, ?_, ?_, ?_⟩
  · intro s hs
    obtain ⟨t, ht, rfl⟩ := List.mem_map.1 hs
    have := hi.fits t ht
    exact ⟨this.1, this.2.1, this.2.2.1, by simp [kn, syg]⟩
  · intro s hs
    obtain ⟨t, ht, rfl⟩ := List.mem_map.1 hs
    have := hi.ch.first t ht
    refine .inr ⟨?_, ?_⟩
    · show t.first ≤ top h.segs
      omega
    · show some t.recs.length = some (min t.recs.length (top h.segs - t.first))
      congr 1; omega
  · show bas (h.segs.map syg) ≤ top h.segs
    rw [bas_map _ _ syg_ok]; exact bas_top hi.ch
  · show top h.segs ≤ top (h.segs.map syg)
    rw [top_map _ _ syg_ok]; exact Nat.le_refl _
  · show top (h.segs.map syg) ≤ N
    rw [top_map _ _ syg_ok]; exact hi.top
theorem gone_lt {N : Nat} {h : H} (hi : Inv N h) {n : Int} (hn : n ≤ h.safe) : gone h n = 0 ∨ (gone h n < h.segs.length ∧ (bas h.segs + gone h n * h.per : Nat) ≤ n) := by
  unfold gone
  by_cases h0 : n ≤ bas h.segs
  · exact .inl (by rw [if_pos h0])
  · rw [if_neg h0]
    have hne : h.segs ≠ [] := by
      intro e
      have := hi.hi
      rw [e] at this h0
      simp [top, bas] at this h0
      omega
    have hl : 0 < h.segs.length := List.length_pos_iff.2 hne
    refine .inr ⟨by omega, ?_⟩
    have h1 : min ((n.toNat - bas h.segs) / h.per) (h.segs.length - 1) * h.per ≤ n.toNat - bas h.segs := Nat.le_trans (Nat.mul_le_mul_right _ (Nat.min_le_left _ _)) (Nat.div_mul_le_self _ _)
    omega
theorem Inv.dro {N : Nat} {h : H} (hi : Inv N h) (n : Int) : Inv N (Sr.dro h n) := by
  unfold Sr.dro
  split
  · exact hi
  · rename_i hn
    rcases gone_lt hi (n := n) (by omega) with h0 | ⟨h1, h2⟩
    · rw [h0]; exact hi
    · have hb := bas_drop hi.ch h1
      have ht := top_drop h1
      exact ⟨hi.p1, hi.p2, by have := hi.n; simp; omega, hi.ch.drop _, fun s hs => hi.fits s (List.mem_of_mem_drop hs), fun s hs => hi.kept s (List.mem_of_mem_drop hs), by show bas (h.segs.drop _) ≤ h.safe; omega, by show h.safe ≤ top (h.segs.drop _); rw [ht]; exact hi.hi, by show top (h.segs.drop _) ≤ N; rw [ht]; exact hi.top⟩
theorem Inv.crs {N : Nat} {h : H} (hi : Inv N h) (k f : Int) : Inv N (Sr.crs h k f) := by
  unfold Sr.crs
  split
  · exact hi
  · exact ⟨hi.p1, hi.p2, hi.n, hi.ch, hi.fits, hi.kept, hi.lo, hi.hi, hi.top⟩

/-! The restart. -/
theorem rs_ok (per : Nat) (p : Int × Int) : ∀ {l : List Sg}, Chn per l → (∀ s ∈ l, Fits s) →
    Chn per (rs per p l) ∧ (rs per p l).length ≤ l.length ∧ (∀ s ∈ rs per p l, Fits s ∧ s.kept = some s.recs.length) ∧ (rs per p l ≠ [] → bas (rs per p l) = bas l) ∧ all (rs per p l) <+: all l
  | [], _, _ => ⟨trivial, Nat.le_refl _, fun s hs => (by cases hs), fun h => (h rfl).elim, List.prefix_rfl⟩
  | s :: l, h, hf => by
    have hs := hf s (by simp)
    obtain ⟨k1, k2, k3, k4⟩ := left_is hs p
    by_cases hj : lj s p = 0
    · rw [rs, if_pos hj]
      exact ⟨trivial, by simp, fun s hs => (by cases hs), fun h => (h rfl).elim, List.nil_prefix⟩
    · rw [rs, if_neg hj]
      have hsl := Chn.all h s (by simp)
      have hl : (lft s p).recs.length = lj s p - 1 := by simp only [lft, List.length_take]; omega
      have hfl : Fits (lft s p) ∧ (lft s p).kept = some (lft s p).recs.length := by
        refine ⟨⟨hs.1, by rw [hl]; have := hs.2.1; omega, fun r hr => hs.2.2.1 r (List.mem_of_mem_take hr), ?_⟩, by rw [hl]; rfl⟩
        simp only [kn, lft, List.length_take]; omega
      by_cases hc : tl s p = [] ∧ lj s p = per + 1
      · rw [if_pos hc]
        obtain ⟨i1, i2, i3, i4, i5⟩ := rs_ok per p h.tail (fun t ht => hf t (by simp [ht]))
        have hrec : (lft s p).recs = s.recs := by
          simp only [lft]; exact List.take_of_length_le (by omega)
        refine ⟨?_, by simp; omega, ?_, fun _ => rfl, ?_⟩
        · cases hr : rs per p l with
          | nil =>
            show (lft s p).recs.length ≤ per
            omega
          | cons t ts =>
            rw [hr] at i1 i4
            refine ⟨by omega, ?_, i1⟩
            cases l with
            | nil => simp [rs] at hr
            | cons u us =>
              have := i4 (by simp)
              simp only [bas] at this
              rw [this, h.2.1]
              rfl
        · intro t ht
          rcases List.mem_cons.1 ht with rfl | ht
          · exact hfl
          · exact i3 t ht
        · rw [all_cons, all_cons, hrec]
          exact (List.prefix_append_right_inj _).2 i5
      · rw [if_neg hc]
        refine ⟨?_, by simp, ?_, fun _ => rfl, ?_⟩
        · show (lft s p).recs.length ≤ per
          omega
        · intro t ht
          simp only [List.mem_singleton] at ht
          subst ht
          exact hfl
        · rw [all_cons, all_cons]
          simp only [all, List.map_nil, List.flatten_nil, List.append_nil, lft]
          exact (List.take_prefix _ _).trans (List.prefix_append _ _)
/-- What was safe is there. -/
theorem rs_safe (per safe : Nat) (p : Int × Int) : ∀ {l : List Sg}, Chn per l → (∀ s ∈ l, Fits s) → (∀ s ∈ l, KO safe s) → safe ≤ top l → safe - bas l ≤ (all (rs per p l)).length
  | [], _, _, _, h => by simp [top] at h; simp [h]
  | s :: l, h, hf, hk, ht => by
    have hs := hf s (by simp)
    obtain ⟨k1, k2, k3, k4⟩ := left_is hs p
    have hsl := Chn.all h s (by simp)
    rcases hk s (by simp) with ⟨a, b, c⟩ | ⟨a, b⟩
    · have : safe - bas (s :: l) = 0 := by simp only [bas]; omega
      omega
    · have hkn : kn s = min s.recs.length (safe - s.first) + 1 := by simp only [kn, b]
      have hj : lj s p ≠ 0 := by omega
      rw [rs, if_neg hj]
      have hl : (lft s p).recs.length = lj s p - 1 := by simp only [lft, List.length_take]; omega
      simp only [bas]
      by_cases hle : safe - s.first ≤ s.recs.length
      · rw [all_cons, List.length_append]; omega
      · cases l with
        | nil => simp [top] at ht; omega
        | cons u us =>
          have hper := h.1
          have hfi := h.2.1
          obtain ⟨t1, t2⟩ := tl_nil hs p (by omega)
          rw [if_pos ⟨t2, by omega⟩, all_cons, List.length_append]
          have := rs_safe per safe p h.tail (fun t ht => hf t (by simp [ht])) (fun t ht => hk t (by simp [ht])) (by rw [top_cons] at ht; exact ht)
          simp only [bas] at this
          omega
theorem top_rs {per : Nat} (p : Int × Int) {l : List Sg} (h : Chn per l) (hf : ∀ s ∈ l, Fits s) : top (rs per p l) ≤ top l := by
  obtain ⟨i1, i2, i3, i4, i5⟩ := rs_ok per p h hf
  by_cases h0 : rs per p l = []
  · rw [h0]; simp [top]
  · have h1 := i4 h0
    have := i5.length_le
    rw [top_all0 i1, top_all0 h, h1]; omega
theorem Inv.rst {N : Nat} {h : H} (hi : Inv N h) : Inv N (Sr.rst h) := by
  unfold Sr.rst
  split
  · exact hi
  · rename_i p _
    obtain ⟨i1, i2, i3, i4, i5⟩ := rs_ok h.per p hi.ch hi.fits
    have ht := top_rs p hi.ch hi.fits
    refine ⟨hi.p1, hi.p2, Nat.le_trans i2 hi.n, i1, fun s hs => (i3 s hs).1, fun s hs => ?_, bas_top i1, Nat.le_refl _, Nat.le_trans ht hi.top⟩
    have h1 := i1.first s hs
    refine .inr ⟨?_, ?_⟩
    · show s.first ≤ top (rs h.per p h.segs)
      omega
    · rw [(i3 s hs).2]
      congr 1
      show _ = min s.recs.length (top (rs h.per p h.segs) - s.first)
      omega
end Go.Proofs.YthmedpabgblddabGreatDoor.Sr
