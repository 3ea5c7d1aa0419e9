/-
  Load's reader: stop, part, num, text.
-/
import Derived.Test.YtcpmaddleleblaaDoorGpDp
import Derived.Test.YtcpmaddleleblaaDoorGpSt
import Derived.Test.YtcpmaddleleblaaDoorReads2
namespace Go.Proofs.YtcpmaddleleblaaDoor.Gdr
open Go.RowKit Kt Gf Gp Gr Gk Ga Gs Gb Gst Pl Wr Rd Fw Gdp
set_option linter.unusedVariables false
set_option linter.unusedSimpArgs false
set_option maxRecDepth 20000

/-- Block B is a reader that is here. -/
structure Rr (W : World) (B : Nat) (st : Rs) (ao : Option Addr) (cap : Nat) : Prop where
  b : Bx W B #[.slice ao st.1.length cap, .int .i64 (st.2 : Int)] 86
  r : Row W ao st.1
  l : st.1.length ≤ cap
  c : cap ≤ 9223372036854775807
  s : st.1.length ≤ 1000000000
  k : ∀ a, ao = some a → a.block < W.heap.size
/-- In the same block. -/
def Sb (ao ao' : Option Addr) : Prop := ∀ a, ao' = some a → ∃ a0, ao = some a0 ∧ a0.block = a.block
theorem Sb.refl (ao : Option Addr) : Sb ao ao := fun a h => ⟨a, h, rfl⟩
theorem Sb.trans {a b c : Option Addr} (h : Sb a b) (k : Sb b c) : Sb a c := fun x hx => by
  obtain ⟨y, hy, e⟩ := k x hx
  obtain ⟨z, hz, e2⟩ := h y hy
  exact ⟨z, hz, e2.trans e⟩
theorem Sb.none (a : Option Addr) : Sb a none := fun x hx => by cases hx
theorem Sb.cut (ao : Option Addr) (c k : Nat) : Sb ao (if c = k then ao else Option.map (fun x => x.add k) ao) := fun a ha => by
  split at ha
  · exact ⟨a, ha, rfl⟩
  · cases ao with
    | none => cases ha
    | some b => cases ha; exact ⟨b, rfl, by simp only [Addr.add]; split <;> rfl⟩
theorem row_off2 {W : World} {B : Nat} {a1 : Option Addr} {n1 c1 : Nat} {i : Int} {t : TypeId} {ao : Option Addr} {bs : List UInt8} (h : Row W ao bs) (hl : 0 < bs.length) (hB : Bx W B #[.slice a1 n1 c1, .int .i64 i] t) : ∀ a, ao = some a → a.block ≠ B := by
  obtain ⟨b, off, rfl, hc⟩ := h hl
  rintro a ha rfl
  cases ha
  have := hc 0 hl
  rw [cell_of_row _ _ _ _ _ _ hB] at this
  match off with
  | 0 => simp at this
  | 1 => simp at this
  | n + 2 => simp at this
theorem Row.fr {W W' : World} {Q : Nat → Prop} {ao : Option Addr} {bs : List UInt8} (h : Row W ao bs) (hF : Fr Q W W') (hq : ∀ a, ao = some a → ¬ Q a.block) : Row W' ao bs := by
  intro hl
  obtain ⟨b, off, rfl, hc⟩ := h hl
  refine ⟨b, off, rfl, fun i hi => ?_⟩
  have h1 := hc i hi
  rw [World.cell?_of_block (w := W) (a := ⟨b, off + i, none⟩) (hF.heap (World.block_lt_of_cell? W _ h1) (hq ⟨b, off, none⟩ rfl))]
  exact h1
theorem Rr.below {W W' : World} {B : Nat} {st : Rs} {ao : Option Addr} {cap : Nat} (h : Rr W B st ao cap) (hb : Below W.heap.size W W') : Rr W' B st ao cap := ⟨h.b.bel hb, h.r.below hb, h.l, h.c, h.s, fun a ha => Nat.lt_of_lt_of_le (h.k a ha) hb.size⟩

set_option maxHeartbeats 1000000 in
theorem stop_any (w : World) (B : Nat) (st : Rs) (ao : Option Addr) (cap : Nat) (h : Rr w B st ao cap) (e : Nat) : Calls Tryd.prog 48 #[.pointer (some ⟨B, 0, none⟩), .int .i64 (e : Int)] w fun x w' => x = .returned (.tuple #[]) ∧ Rr w' B (stopS st e) none 0 ∧ Fr (fun k => k = B) w w' := by
  obtain ⟨bs, f⟩ := st
  have HR := mkH h
  clear h
  have c0 : w.cell? ⟨B, 0, none⟩ = some (.slice ao bs.length cap) := HR.out.b.cell 0 _ rfl
  have c1 : w.cell? ⟨B, 1, none⟩ = some (.int .i64 (f : Int)) := HR.out.b.cell 1 _ rfl
  have f0 := HR.out.b.frozen 0
  have f1 := HR.out.b.frozen 1
  by_cases hf : f = 0
  · subst hf
    go_enter Tryd.func48, Tryd.ntmps48
    go_wp2
    have hB1 : Bx _ B #[.slice ao bs.length cap, .int .i64 (e : Int)] 86 := HR.out.b.set 1 (.int .i64 (e : Int))
    have hB2 : Bx _ B #[.slice none 0 0, .int .i64 (e : Int)] 86 := hB1.set 0 (.slice none 0 0)
    have hF := (HR.out.b.frset 1 (.int .i64 (e : Int))).trans (hB1.frset 0 (.slice none 0 0)) (fun i hi => .inl hi)
    exact bodyPost_end (results_none rfl _ _ _) rfl ⟨rfl, ⟨hB2, Row.nil _ _, Nat.le_refl _, by omega, by show 0 ≤ 1000000000; omega, fun a ha => by cases ha⟩, hF⟩
  · have h1 : ¬ (f : Int) = 0 := by omega
    have h2 : ((f : Int) == 0) = false := by simpa using h1
    go_enter Tryd.func48, Tryd.ntmps48
    go_wp2
    have hB2 : Bx _ B #[.slice none 0 0, .int .i64 (f : Int)] 86 := HR.out.b.set 0 (.slice none 0 0)
    have hF := HR.out.b.frset 0 (.slice none 0 0)
    have hst : stopS (bs, f) e = ([], f) := by unfold stopS; simp [hf]
    have hfin : Rr (w.setCell ⟨B, 0, none⟩ (.slice none 0 0)) B (stopS (bs, f) e) none 0 := by
      rw [hst]
      exact ⟨hB2, Row.nil _ _, Nat.le_refl _, by omega, by show 0 ≤ 1000000000; omega, fun a ha => by cases ha⟩
    exact bodyPost_end (results_none rfl _ _ _) rfl ⟨rfl, hfin, hF⟩

set_option maxHeartbeats 1000000 in
theorem partI_any (w : World) (B : Nat) (st : Rs) (ao : Option Addr) (cap : Nat) (h : Rr w B st ao cap) (n : Nat) (st' : Rs) (hs : numS st = (n, st')) : Calls Tryd.prog 73 #[.pointer (some ⟨B, 0, none⟩), .func (.func 74) #[] #[]] w fun x w' => x = .returned (.int .i64 (n : Int)) ∧ ∃ ao' cap', Rr w' B st' ao' cap' ∧ Sb ao ao' ∧ Fr (fun k => k = B) w w' := by
  have HS := mkH hs
  have HR := mkH h
  clear h hs
  obtain ⟨bs, f⟩ := st
  have c0 : w.cell? ⟨B, 0, none⟩ = some (.slice ao bs.length cap) := HR.out.b.cell 0 _ rfl
  have f0 := HR.out.b.frozen 0
  have hbl : bs.length ≤ cap := HR.out.l
  have hcc : cap ≤ 9223372036854775807 := HR.out.c
  go_enter Tryd.func73, Tryd.ntmps73
  go_wp2_with fail
  refine (readNum_any w ao cap bs HR.out.r HR.out.s).mono ?_
  rintro e w2 ⟨rfl, hw2⟩
  obtain rfl := hw2.symm
  have hbad : ∀ e : Nat, e ≠ 0 → readNum bs = (0, 0, e) → n = 0 ∧ st' = stopS (bs, f) e := fun e he hr => by
    have := HS.out
    unfold numS at this
    rw [hr, if_pos he] at this
    cases this
    exact ⟨rfl, rfl⟩
  have good : ∀ m k : Nat, readNum bs = (m, k, 0) → n = m ∧ st' = (bs.drop k, f) := fun m k hr => by
    have := HS.out
    unfold numS at this
    rw [hr, if_neg (by simp)] at this
    cases this
    exact ⟨rfl, rfl⟩
  have HBad := mkH hbad
  have HGood := mkH good
  clear hbad good HS
  rcases readNum_err bs with ⟨m, k, hr⟩ | hr | hr
  · obtain ⟨rfl, rfl⟩ := HGood.out m k hr
    have hk : k ≤ bs.length := (readNum_once hr).2.1
    rw [hr]
    simp only [ans]
    obtain ⟨aq, haq⟩ : ∃ aq, (if cap = k then ao else Option.map (fun x => x.add k) ao) = aq := ⟨_, rfl⟩
    have hrow : Row w aq (bs.drop k) := by rw [← haq]; exact Row_drop HR.out.r hbl
    have HRow := mkH hrow
    have HSb : Hid (Sb ao aq) := by rw [← haq]; exact Sb.cut ao cap k
    have hk1 : (k : Int) ≤ (bs.length : Int) := by omega
    clear hr hrow HBad HGood
    go_wp2
    have hB2 : Bx _ B #[.slice aq (bs.length - k) (cap - k), .int .i64 (f : Int)] 86 := HR.out.b.set 0 (.slice aq (bs.length - k) (cap - k))
    have hF := HR.out.b.frset 0 (.slice aq (bs.length - k) (cap - k))
    have hfin : Rr (w.setCell ⟨B, 0, none⟩ (.slice aq (bs.length - k) (cap - k))) B (bs.drop k, f) aq (cap - k) := by
      refine ⟨by rw [List.length_drop]; exact hB2, ?_, by rw [List.length_drop]; omega, by omega, by rw [List.length_drop]; have := HR.out.s; simp only at this; omega, fun a ha => by
        obtain ⟨a0, h0, he⟩ := HSb.out a ha
        rw [← he]
        exact Nat.lt_of_lt_of_le (HR.out.k a0 h0) hF.size⟩
      intro hl
      exact Row.fr HRow.out hF (fun a ha => row_off2 HRow.out hl HR.out.b a ha) hl
    go_ret
    first | exact ⟨rfl, ⟨aq, ⟨cap - k, hfin⟩, HSb.out⟩, hF⟩ | exact ⟨rfl, aq, ⟨cap - k, hfin⟩, HSb.out, hF⟩ | exact ⟨rfl, aq, cap - k, hfin, HSb.out, hF⟩
  · obtain ⟨rfl, rfl⟩ := HBad.out 4 (by decide) hr
    rw [hr]
    simp only [ans]
    clear hr HBad HGood
    go_wp2_with fail
    refine (stop_any w B (bs, f) ao cap HR.out 4).mono ?_
    rintro e w3 ⟨rfl, h3, hf3⟩
    go_wp2
    go_ret
    exact ⟨rfl, none, 0, h3, Sb.none _, hf3⟩
  · obtain ⟨rfl, rfl⟩ := HBad.out 5 (by decide) hr
    rw [hr]
    simp only [ans]
    clear hr HBad HGood
    go_wp2_with fail
    refine (stop_any w B (bs, f) ao cap HR.out 5).mono ?_
    rintro e w3 ⟨rfl, h3, hf3⟩
    go_wp2
    go_ret
    exact ⟨rfl, none, 0, h3, Sb.none _, hf3⟩

theorem readText_err (bs : List UInt8) : (∃ s k, readText bs = (s, k, 0)) ∨ ∃ e, e ≠ 0 ∧ readText bs = ([], 0, e) := by
  unfold readText
  by_cases h : (readCount bs 4096).2.2 = 0
  · rw [if_neg (by simpa using h)]
    split
    · exact .inr ⟨4, by decide, rfl⟩
    · exact .inl ⟨_, _, rfl⟩
  · rw [if_pos h]
    exact .inr ⟨_, h, rfl⟩

set_option maxHeartbeats 1000000 in
theorem partT_any (w : World) (B : Nat) (st : Rs) (ao : Option Addr) (cap : Nat) (h : Rr w B st ao cap) (s : List UInt8) (st' : Rs) (hs : textS st = (s, st')) : Calls Tryd.prog 75 #[.pointer (some ⟨B, 0, none⟩), .func (.func 76) #[] #[]] w fun x w' => x = .returned (.string (S s)) ∧ ∃ ao' cap', Rr w' B st' ao' cap' ∧ Sb ao ao' ∧ Fr (fun k => k = B) w w' := by
  have HS := mkH hs
  have HR := mkH h
  clear h hs
  obtain ⟨bs, f⟩ := st
  have c0 : w.cell? ⟨B, 0, none⟩ = some (.slice ao bs.length cap) := HR.out.b.cell 0 _ rfl
  have f0 := HR.out.b.frozen 0
  have hbl : bs.length ≤ cap := HR.out.l
  have hcc : cap ≤ 9223372036854775807 := HR.out.c
  go_enter Tryd.func75, Tryd.ntmps75
  go_wp2_with fail
  refine (readText_any w ao cap bs HR.out.r HR.out.s hbl hcc).mono ?_
  rintro e w2 ⟨rfl, hw2⟩
  obtain rfl := hw2.symm
  have hbad : ∀ e : Nat, e ≠ 0 → readText bs = ([], 0, e) → s = [] ∧ st' = stopS (bs, f) e := fun e he hr => by
    have := HS.out
    unfold textS at this
    rw [hr, if_pos he] at this
    cases this
    exact ⟨rfl, rfl⟩
  have good : ∀ (m : List UInt8) (k : Nat), readText bs = (m, k, 0) → s = m ∧ st' = (bs.drop k, f) := fun m k hr => by
    have := HS.out
    unfold textS at this
    rw [hr, if_neg (by simp)] at this
    cases this
    exact ⟨rfl, rfl⟩
  have HBad := mkH hbad
  have HGood := mkH good
  clear hbad good HS
  rcases readText_err bs with ⟨m, k, hr⟩ | ⟨er, her, hr⟩
  · obtain ⟨rfl, rfl⟩ := HGood.out m k hr
    have hk : k ≤ bs.length := (readText_once hr).2.1
    rw [hr]
    simp only [ansT]
    obtain ⟨aq, haq⟩ : ∃ aq, (if cap = k then ao else Option.map (fun x => x.add k) ao) = aq := ⟨_, rfl⟩
    have hrow : Row w aq (bs.drop k) := by rw [← haq]; exact Row_drop HR.out.r hbl
    have HRow := mkH hrow
    have HSb : Hid (Sb ao aq) := by rw [← haq]; exact Sb.cut ao cap k
    have hk1 : (k : Int) ≤ (bs.length : Int) := by omega
    clear hr hrow HBad HGood
    go_wp2
    have hB2 : Bx _ B #[.slice aq (bs.length - k) (cap - k), .int .i64 (f : Int)] 86 := HR.out.b.set 0 (.slice aq (bs.length - k) (cap - k))
    have hF := HR.out.b.frset 0 (.slice aq (bs.length - k) (cap - k))
    have hfin : Rr (w.setCell ⟨B, 0, none⟩ (.slice aq (bs.length - k) (cap - k))) B (bs.drop k, f) aq (cap - k) := by
      refine ⟨by rw [List.length_drop]; exact hB2, ?_, by rw [List.length_drop]; omega, by omega, by rw [List.length_drop]; have := HR.out.s; simp only at this; omega, fun a ha => by
        obtain ⟨a0, h0, he⟩ := HSb.out a ha
        rw [← he]
        exact Nat.lt_of_lt_of_le (HR.out.k a0 h0) hF.size⟩
      intro hl
      exact Row.fr HRow.out hF (fun a ha => row_off2 HRow.out hl HR.out.b a ha) hl
    go_ret
    first | exact ⟨rfl, ⟨aq, ⟨cap - k, hfin⟩, HSb.out⟩, hF⟩ | exact ⟨rfl, aq, ⟨cap - k, hfin⟩, HSb.out, hF⟩ | exact ⟨rfl, aq, cap - k, hfin, HSb.out, hF⟩
  · obtain ⟨rfl, rfl⟩ := HBad.out er her hr
    rw [hr]
    simp only [ansT]
    have h1 : ¬ (er : Int) = 0 := by omega
    have h2 : ((er : Int) == 0) = false := by simpa using h1
    clear hr HBad HGood her
    go_wp2_with fail
    refine (stop_any w B (bs, f) ao cap HR.out er).mono ?_
    rintro e w3 ⟨rfl, h3, hf3⟩
    go_wp2
    go_ret
    exact ⟨rfl, none, 0, h3, Sb.none _, hf3⟩

theorem num_any (w : World) (B : Nat) (st : Rs) (ao : Option Addr) (cap : Nat) (h : Rr w B st ao cap) (n : Nat) (st' : Rs) (hs : numS st = (n, st')) : Calls Tryd.prog 42 #[.pointer (some ⟨B, 0, none⟩)] w fun x w' => x = .returned (.int .i64 (n : Int)) ∧ ∃ ao' cap', Rr w' B st' ao' cap' ∧ Sb ao ao' ∧ Fr (fun k => k = B) w w' := by
  go_enter Tryd.func42, Tryd.ntmps42
  go_wp2_with fail
  refine (partI_any w B st ao cap h n st' hs).mono ?_
  rintro e w3 ⟨rfl, a3, c3, h3, hs3, hf3⟩
  go_wp2
  go_ret
  exact ⟨rfl, a3, c3, h3, hs3, hf3⟩
theorem rtext_any (w : World) (B : Nat) (st : Rs) (ao : Option Addr) (cap : Nat) (h : Rr w B st ao cap) (s : List UInt8) (st' : Rs) (hs : textS st = (s, st')) : Calls Tryd.prog 47 #[.pointer (some ⟨B, 0, none⟩)] w fun x w' => x = .returned (.string (S s)) ∧ ∃ ao' cap', Rr w' B st' ao' cap' ∧ Sb ao ao' ∧ Fr (fun k => k = B) w w' := by
  go_enter Tryd.func47, Tryd.ntmps47
  go_wp2_with fail
  refine (partT_any w B st ao cap h s st' hs).mono ?_
  rintro e w3 ⟨rfl, a3, c3, h3, hs3, hf3⟩
  go_wp2
  go_ret
  exact ⟨rfl, a3, c3, h3, hs3, hf3⟩
end Go.Proofs.YtcpmaddleleblaaDoor.Gdr
