/-
  WiI WiJ WiJC WiFew WiO, joined by mrg.py.
-/
import Derived.Test.YtgbbajeeelgbhaaGreatDoorSqAW

namespace Go.Proofs.YtgbbajeeelgbhaaGreatDoor.Wq
open Go.RowKit Kt Pl Wi Wk Rd Lt Fw
open At (RowT)
set_option linter.unusedVariables false
set_option linter.unusedSimpArgs false
set_option maxRecDepth 20000

/-- What a reader stops with. -/
def stopE (er : Nat) : Ending := .panicked [{ v := .iface 298 (.agg #[.int .i64 er]), recovered := false }]

theorem stopAt_ok (w : World) : Calls Tryz.prog 211 #[.int .i64 0] w fun e w' => e = .returned (.tuple #[]) ∧ w' = w := by
  go_enter Tryz.func211, Tryz.ntmps211
  go_wp2
  go_end0
  exact ⟨rfl, rfl⟩

theorem stopAt_bad (w : World) (er : Nat) (h : er ≠ 0) : Calls Tryz.prog 211 #[.int .i64 er] w fun e w' => e = stopE er ∧ w' = w := by
  have te : ((er : Int) == 0) = false := by simp; omega
  clear h
  go_enter Tryz.func211, Tryz.ntmps211
  go_wp2
  exact ⟨rfl, rfl, rfl⟩

/-- Nothing old has turned but the block rb. -/
def On (rb : Nat) (w w' : World) : Prop := w.grownBy w' (some rb)

theorem On.refl (b : Nat) (w : World) : On b w w := ⟨rfl, rfl, rfl, Nat.le_refl _, fun _ _ _ => rfl⟩

theorem On.trans {b : Nat} {w w1 w2 : World} (h : On b w w1) (k : On b w1 w2) : On b w w2 :=
  ⟨k.os.trans h.os, k.tape.trans h.tape, k.output.trans h.output, Nat.le_trans h.size k.size, fun i hi hne => (k.block i (Nat.lt_of_lt_of_le hi h.size) hne).trans (h.block i hi hne)⟩

theorem On.ofBelow {b : Nat} {w w' : World} (h : Below w.heap.size w w') : On b w w' := ⟨h.os, h.tape, h.output, h.size, fun k hk _ => h.block k hk⟩

theorem On.setCell {b : Nat} {w w' : World} (h : On b w w') (k : Nat) (v : Value) : On b w (w'.setCell ⟨b, k, none⟩ v) :=
  h.trans ⟨rfl, rfl, rfl, by simp, fun i _ hne => heap_setCell_other w' ⟨b, k, none⟩ i v (fun e => hne (by rw [e]))⟩

theorem On.heap {b : Nat} {w w' : World} (h : On b w w') {k : Nat} (hk : k < w.heap.size) (hne : k ≠ b) : w'.heap[k]? = w.heap[k]? := h.block k hk (by simpa using hne)

theorem On.below {b B : Nat} {w w' : World} (h : On b w w') (hb : B ≤ b) (hs : B ≤ w.heap.size) : Below B w w' := ⟨h.os, h.tape, h.output, h.size, fun k hk => h.heap (by omega) (by omega)⟩

/-- A row of bytes whose memory is not the reader's. -/
theorem Row.on {w w' : World} {rb : Nat} {ao : Option Addr} {bs : Bs} (h : Row w ao bs) (hn : 0 < bs.length → ∀ a, ao = some a → a.block < rb) (ho : On rb w w') : Row w' ao bs := by
  intro hl
  obtain ⟨b, off, rfl, hc⟩ := h hl
  refine ⟨b, off, rfl, fun i hi => ?_⟩
  have h1 := hc i hi
  rw [World.cell?_of_block (w := w) (a := ⟨b, off + i, none⟩) (ho.heap (World.block_lt_of_cell? w _ h1) (Nat.ne_of_lt (hn hl ⟨b, off, none⟩ rfl)))]
  exact h1

theorem RowT.on {w w' : World} {rb : Nat} {ao : Option Addr} {l : List Bs} (h : RowT w ao l) (hn : ∀ a, ao = some a → a.block ≠ rb) (ho : On rb w w') : RowT w' ao l := by
  intro hl
  obtain ⟨b, off, rfl, hc⟩ := h hl
  refine ⟨b, off, rfl, fun i hi => ?_⟩
  have h1 := hc i hi
  rw [World.cell?_of_block (w := w) (a := ⟨b, off + i, none⟩) (ho.heap (World.block_lt_of_cell? w _ h1) (hn ⟨b, off, none⟩ rfl))]
  exact h1

theorem Bx.on {w w' : World} {rb b : Nat} {cs : Array Value} {t : TypeId} (h : Bx w b cs t) (hn : b ≠ rb) (ho : On rb w w') : Bx w' b cs t := (ho.heap h.lt hn).trans h

/-- The reader in block rb has these bytes left. -/
def Rst (w : World) (rb : Nat) (bs : Bs) : Prop := ∃ ao cap, Bx w rb #[.slice ao bs.length cap] 240 ∧ Row w ao bs ∧ bs.length ≤ cap ∧ cap ≤ 9223372036854775807 ∧ (0 < bs.length → ∀ a, ao = some a → a.block < rb)

theorem Rst.lt {w : World} {rb : Nat} {bs : Bs} (h : Rst w rb bs) : rb < w.heap.size := by obtain ⟨_, _, h, _⟩ := h; exact h.lt

theorem Rst.below {w w' : World} {rb : Nat} {bs : Bs} (h : Rst w rb bs) (hb : Below w.heap.size w w') : Rst w' rb bs := by
  obtain ⟨ao, cap, h1, h2, h3⟩ := h
  exact ⟨ao, cap, h1.below hb h1.lt, h2.below hb, h3⟩

/-- What a reading hands back: the part, by V, and what is left; or it stops. -/
def Got (rb : Nat) (w : World) {α : Type} (r : Except Nat (α × Bs)) (V : α → Value → World → Prop) (e : Ending) (w' : World) : Prop :=
  On rb w w' ∧ ((∃ x rest v, r = .ok (x, rest) ∧ e = .returned v ∧ V x v w' ∧ Rst w' rb rest ∧ rest.length ≤ 1000000000) ∨ (∃ er, r = .error er ∧ er ≠ 0 ∧ e = stopE er))

def VI (x : Int) (v : Value) (w : World) : Prop := v = .int .i64 x

def VT (x : Bs) (v : Value) (w : World) : Prop := v = .string (S x) ∧ x.length ≤ 4096

def VD (lo : Nat) (l : List Bs) (v : Value) (w : World) : Prop := ∃ ao cap, v = .slice ao l.length cap ∧ RowT w ao l ∧ (∀ a, ao = some a → lo ≤ a.block) ∧ l.length ≤ 1024

theorem VD.on {rb lo : Nat} {l : List Bs} {v : Value} {w w' : World} (h : VD lo l v w) (hlo : rb < lo) (ho : On rb w w') : VD lo l v w' := by
  obtain ⟨ao, cap, e, hr, hn, hl⟩ := h
  exact ⟨ao, cap, e, RowT.on hr (fun a ha => by have := hn a ha; omega) ho, hn, hl⟩

theorem slice_map (ao : Option Addr) (k cap : Nat) : ∀ a, (if cap = k then ao else Option.map (fun x => x.add k) ao) = some a → ∃ a0, ao = some a0 ∧ a0.block = a.block := by
  intro a h
  split at h
  · exact ⟨a, h, rfl⟩
  · cases ao with
    | none => simp at h
    | some a0 => simp at h; exact ⟨a0, rfl, by rw [← h]; unfold Addr.add; split <;> rfl⟩

theorem pNum_cases (bs : Bs) : (∃ n k, readNum bs = (n, k, 0) ∧ 1 ≤ k ∧ k ≤ bs.length ∧ pNum bs = .ok ((n : Int), bs.drop k)) ∨ (∃ er, er ≠ 0 ∧ readNum bs = (0, 0, er) ∧ pNum bs = .error er) := by
  unfold pNum
  rcases readNum_err bs with ⟨n, k, h⟩ | h | h
  · left; have := readNum_once h; exact ⟨n, k, h, this.1, this.2.1, by rw [h]; simp⟩
  · right; exact ⟨4, by omega, h, by rw [h]; simp⟩
  · right; exact ⟨5, by omega, h, by rw [h]; simp⟩

theorem pText_cases (bs : Bs) : (∃ s k, readText bs = (s, k, 0) ∧ s.length ≤ 4096 ∧ k ≤ bs.length ∧ pText bs = .ok (s, bs.drop k)) ∨ (∃ er, er ≠ 0 ∧ readText bs = ([], 0, er) ∧ pText bs = .error er) := by
  unfold pText ofRead
  rcases readText_err bs with ⟨s, k, h⟩ | ⟨er, he, h⟩
  · left; have := readText_once h; exact ⟨s, k, h, this.2.2.1, this.2.1, by rw [h]; simp⟩
  · right; exact ⟨er, he, h, by rw [h]; simp [he]⟩

theorem pData_cases (bs : Bs) : (∃ l k, readList readText bs = (l, k, 0) ∧ l.length ≤ 1024 ∧ k ≤ bs.length ∧ pData bs = .ok (l, bs.drop k)) ∨ (∃ er l k, er ≠ 0 ∧ readList readText bs = (l, k, er) ∧ pData bs = .error er) := by
  unfold pData ofRead
  by_cases h : (readList readText bs).2.2 = 0
  · left
    have hr : readList readText bs = ((readList readText bs).1, (readList readText bs).2.1, 0) := by rw [← h]
    obtain ⟨a1, a2, a3⟩ := readList_once (e := encText) (fun bs x k hx => ⟨(readText_once hx).2.1, (readText_once hx).2.2.2⟩) hr
    exact ⟨_, _, hr, a2, a1, by simp [h]⟩
  · right; exact ⟨_, _, _, h, rfl, by simp [h]⟩

set_option maxHeartbeats 2000000 in
theorem partI_any (w : World) (rb : Nat) (bs : Bs) (hst : Rst w rb bs) (hlen : bs.length ≤ 1000000000) :
    Calls Tryz.prog 257 #[.pointer (some ⟨rb, 0, none⟩), .func (Fn.func 63) #[] #[]] w fun e w' => Got rb w (pNum bs) VI e w' := by
  obtain ⟨ao, cap, hB, hr, hcap, hc63, hn⟩ := hst
  have hc0 : w.cell? ⟨rb, 0, none⟩ = some (.slice ao bs.length cap) := hB.cell 0
  have hz0 := hB.frozen 0
  have HC := readNum_any w ao cap bs hr hlen
  have HR := mkH hr
  have HB := mkH hB
  have HN := mkH hn
  have hlt := hB.lt
  clear hr hB hn
  rcases pNum_cases bs with ⟨n, k, h, hk1, hk, hp⟩ | ⟨er, her, h, hp⟩
  · have HP := mkH hp
    rw [h] at HC
    have HRd := mkH (Row_drop HR.out (k := k) hcap)
    have HMap := mkH (slice_map ao k cap)
    obtain ⟨aq, haq⟩ : ∃ aq, (if cap = k then ao else Option.map (fun x => x.add k) ao) = aq := ⟨_, rfl⟩
    rw [haq] at HRd HMap
    clear h hp
    go_enter Tryz.func257, Tryz.ntmps257
    go_wp2_with fail
    refine HC.mono ?_
    unfold ans
    rintro e w1 ⟨rfl, rfl⟩
    clear HC
    go_wp2_with fail
    refine (stopAt_ok _).mono ?_
    rintro e w2 ⟨rfl, rfl⟩
    go_wp2
    go_ret
    refine ⟨(On.refl rb _).setCell 0 _, .inl ⟨(n : Int), bs.drop k, _, HP.out, rfl, rfl, ?_, by rw [List.length_drop]; omega⟩⟩
    refine ⟨aq, cap - k, ?_, ?_, by rw [List.length_drop]; omega, by omega, fun hpos a ha => by obtain ⟨a0, h0, h1⟩ := HMap.out a ha; rw [← h1]; exact HN.out (by rw [List.length_drop] at hpos; omega) a0 h0⟩
    · have := HB.out.set 0 (.slice aq (bs.length - k) (cap - k)); rw [List.length_drop]; exact this
    · exact Row.on HRd.out (fun hpos a ha => by obtain ⟨a0, h0, h1⟩ := HMap.out a ha; rw [← h1]; exact HN.out (by rw [List.length_drop] at hpos; omega) a0 h0) ((On.refl rb _).setCell 0 _)
  · have HP := mkH hp
    rw [h] at HC
    clear h hp
    go_enter Tryz.func257, Tryz.ntmps257
    go_wp2_with fail
    refine HC.mono ?_
    unfold ans
    rintro e w1 ⟨rfl, rfl⟩
    clear HC
    have HON := mkH (On.refl rb w1)
    go_wp2_with fail
    refine (stopAt_bad _ er her).mono ?_
    rintro e w2 ⟨rfl, rfl⟩
    unfold stopE
    go_wp2
    exact ⟨rfl, HON.out, .inr ⟨er, HP.out, her, rfl⟩⟩

set_option maxHeartbeats 2000000 in
theorem partT_any (w : World) (rb : Nat) (bs : Bs) (hst : Rst w rb bs) (hlen : bs.length ≤ 1000000000) :
    Calls Tryz.prog 258 #[.pointer (some ⟨rb, 0, none⟩), .func (Fn.func 239) #[] #[]] w fun e w' => Got rb w (pText bs) VT e w' := by
  obtain ⟨ao, cap, hB, hr, hcap, hc63, hn⟩ := hst
  have hc0 : w.cell? ⟨rb, 0, none⟩ = some (.slice ao bs.length cap) := hB.cell 0
  have hz0 := hB.frozen 0
  have HC := readText_any w ao cap bs hr hlen hcap hc63
  have HR := mkH hr
  have HB := mkH hB
  have HN := mkH hn
  have hlt := hB.lt
  clear hr hB hn
  rcases pText_cases bs with ⟨n, k, h, hs, hk, hp⟩ | ⟨er, her, h, hp⟩
  · have HP := mkH hp
    rw [h] at HC
    have HRd := mkH (Row_drop HR.out (k := k) hcap)
    have HMap := mkH (slice_map ao k cap)
    obtain ⟨aq, haq⟩ : ∃ aq, (if cap = k then ao else Option.map (fun x => x.add k) ao) = aq := ⟨_, rfl⟩
    rw [haq] at HRd HMap
    clear h hp
    go_enter Tryz.func258, Tryz.ntmps258
    go_wp2_with fail
    refine HC.mono ?_
    unfold ansT
    rintro e w1 ⟨rfl, rfl⟩
    clear HC
    go_wp2_with fail
    refine (stopAt_ok _).mono ?_
    rintro e w2 ⟨rfl, rfl⟩
    go_wp2
    go_ret
    refine ⟨(On.refl rb _).setCell 0 _, .inl ⟨n, bs.drop k, _, HP.out, rfl, ⟨rfl, hs⟩, ?_, by rw [List.length_drop]; omega⟩⟩
    refine ⟨aq, cap - k, ?_, ?_, by rw [List.length_drop]; omega, by omega, fun hpos a ha => by obtain ⟨a0, h0, h1⟩ := HMap.out a ha; rw [← h1]; exact HN.out (by rw [List.length_drop] at hpos; omega) a0 h0⟩
    · have := HB.out.set 0 (.slice aq (bs.length - k) (cap - k)); rw [List.length_drop]; exact this
    · exact Row.on HRd.out (fun hpos a ha => by obtain ⟨a0, h0, h1⟩ := HMap.out a ha; rw [← h1]; exact HN.out (by rw [List.length_drop] at hpos; omega) a0 h0) ((On.refl rb _).setCell 0 _)
  · have HP := mkH hp
    rw [h] at HC
    clear h hp
    go_enter Tryz.func258, Tryz.ntmps258
    go_wp2_with fail
    refine HC.mono ?_
    unfold ansT
    rintro e w1 ⟨rfl, rfl⟩
    clear HC
    have HON := mkH (On.refl rb w1)
    go_wp2_with fail
    refine (stopAt_bad _ er her).mono ?_
    rintro e w2 ⟨rfl, rfl⟩
    unfold stopE
    go_wp2
    exact ⟨rfl, HON.out, .inr ⟨er, HP.out, her, rfl⟩⟩

set_option maxHeartbeats 2000000 in
theorem partD_any (w : World) (rb : Nat) (bs : Bs) (hst : Rst w rb bs) (hlen : bs.length ≤ 1000000000) :
    Calls Tryz.prog 259 #[.pointer (some ⟨rb, 0, none⟩), .func (Fn.func 260) #[] #[]] w fun e w' => Got rb w (pData bs) (VD w.heap.size) e w' := by
  obtain ⟨ao, cap, hB, hr, hcap, hc63, hn⟩ := hst
  have hc0 : w.cell? ⟨rb, 0, none⟩ = some (.slice ao bs.length cap) := hB.cell 0
  have hz0 := hB.frozen 0
  have HC := readTexts_any w ao cap bs hr hlen hcap hc63
  have HR := mkH hr
  have HB := mkH hB
  have HN := mkH hn
  have hlt := hB.lt
  clear hr hB hn
  rcases pData_cases bs with ⟨n, k, h, hs, hk, hp⟩ | ⟨er, l, k, her, h, hp⟩
  · have HP := mkH hp
    rw [h] at HC
    have HRd := mkH (Row_drop HR.out (k := k) hcap)
    have HMap := mkH (slice_map ao k cap)
    obtain ⟨aq, haq⟩ : ∃ aq, (if cap = k then ao else Option.map (fun x => x.add k) ao) = aq := ⟨_, rfl⟩
    rw [haq] at HRd HMap
    clear h hp
    go_enter Tryz.func259, Tryz.ntmps259
    go_wp2_with fail
    refine HC.mono ?_
    unfold IsTexts
    rintro e w1 ⟨v1, rfl, hown, hb⟩
    clear HC
    have hc1 : w1.cell? ⟨rb, 0, none⟩ = some (.slice ao bs.length cap) := (HB.out.below hb hlt).cell 0
    have hz1 := (HB.out.below hb hlt).frozen 0
    obtain ⟨ad, cd, rfl⟩ := own_form hown
    have HT := mkH (At.RowT.own hown).2.2
    have HF := mkH (Wb.own_lt hown)
    have HBb := mkH hb
    have HON := mkH (On.ofBelow (b := rb) hb)
    have HB1 := mkH (HB.out.below hb hlt)
    clear hown hb hc0 hz0
    go_wp2_with fail
    refine (stopAt_ok _).mono ?_
    rintro e w2 ⟨rfl, rfl⟩
    go_wp2
    go_ret
    refine ⟨HON.out.setCell 0 _, .inl ⟨n, bs.drop k, _, HP.out, rfl, ⟨ad, cd, rfl, Wk.RowT.setCell HT.out (fun a ha => by have := HF.out a ha; simp; omega) _, HF.out, hs⟩, ?_, by rw [List.length_drop]; omega⟩⟩
    refine ⟨aq, cap - k, ?_, ?_, by rw [List.length_drop]; omega, by omega, fun hpos a ha => by obtain ⟨a0, h0, h1⟩ := HMap.out a ha; rw [← h1]; exact HN.out (by rw [List.length_drop] at hpos; omega) a0 h0⟩
    · have := HB1.out.set 0 (.slice aq (bs.length - k) (cap - k)); rw [List.length_drop]; exact this
    · exact Row.on HRd.out (fun hpos a ha => by obtain ⟨a0, h0, h1⟩ := HMap.out a ha; rw [← h1]; exact HN.out (by rw [List.length_drop] at hpos; omega) a0 h0) (HON.out.setCell 0 _)
  · have HP := mkH hp
    rw [h] at HC
    clear h hp
    go_enter Tryz.func259, Tryz.ntmps259
    go_wp2_with fail
    refine HC.mono ?_
    unfold IsTexts
    rintro e w1 ⟨v1, rfl, hown, hb⟩
    clear HC
    have HON := mkH (On.ofBelow (b := rb) hb)
    clear hown hb
    go_wp2_with fail
    refine (stopAt_bad _ er her).mono ?_
    rintro e w2 ⟨rfl, rfl⟩
    unfold stopE
    go_wp2
    exact ⟨rfl, HON.out, .inr ⟨er, HP.out, her, rfl⟩⟩

theorem num_any (w : World) (rb : Nat) (bs : Bs) (hst : Rst w rb bs) (hlen : bs.length ≤ 1000000000) :
    Calls Tryz.prog 212 #[.pointer (some ⟨rb, 0, none⟩)] w fun e w' => Got rb w (pNum bs) VI e w' := by
  have H := partI_any w rb bs hst hlen
  clear hst
  go_enter Tryz.func212, Tryz.ntmps212
  go_wp2_with fail
  refine H.mono ?_
  rintro e w1 ⟨ho, ⟨x, rest, v, hp, rfl, hv⟩ | ⟨er, hp, her, rfl⟩⟩
  · have HV := mkH hv
    have HO := mkH ho
    have HP := mkH hp
    clear H hv ho hp
    go_wp2
    go_ret
    exact ⟨HO.out, .inl ⟨x, rest, _, HP.out, rfl, HV.out⟩⟩
  · have HO := mkH ho
    have HP := mkH hp
    clear H ho hp
    unfold stopE
    go_wp2
    exact ⟨rfl, HO.out, .inr ⟨er, HP.out, her, rfl⟩⟩

theorem text_any (w : World) (rb : Nat) (bs : Bs) (hst : Rst w rb bs) (hlen : bs.length ≤ 1000000000) :
    Calls Tryz.prog 213 #[.pointer (some ⟨rb, 0, none⟩)] w fun e w' => Got rb w (pText bs) VT e w' := by
  have H := partT_any w rb bs hst hlen
  clear hst
  go_enter Tryz.func213, Tryz.ntmps213
  go_wp2_with fail
  refine H.mono ?_
  rintro e w1 ⟨ho, ⟨x, rest, v, hp, rfl, hv⟩ | ⟨er, hp, her, rfl⟩⟩
  · have HV := mkH hv
    have HO := mkH ho
    have HP := mkH hp
    clear H hv ho hp
    go_wp2
    go_ret
    exact ⟨HO.out, .inl ⟨x, rest, _, HP.out, rfl, HV.out⟩⟩
  · have HO := mkH ho
    have HP := mkH hp
    clear H ho hp
    unfold stopE
    go_wp2
    exact ⟨rfl, HO.out, .inr ⟨er, HP.out, her, rfl⟩⟩

theorem data_any (w : World) (rb : Nat) (bs : Bs) (hst : Rst w rb bs) (hlen : bs.length ≤ 1000000000) :
    Calls Tryz.prog 216 #[.pointer (some ⟨rb, 0, none⟩)] w fun e w' => Got rb w (pData bs) (VD w.heap.size) e w' := by
  have H := partD_any w rb bs hst hlen
  clear hst
  go_enter Tryz.func216, Tryz.ntmps216
  go_wp2_with fail
  refine H.mono ?_
  rintro e w1 ⟨ho, ⟨x, rest, v, hp, rfl, hv⟩ | ⟨er, hp, her, rfl⟩⟩
  · have HV := mkH hv
    have HO := mkH ho
    have HP := mkH hp
    clear H hv ho hp
    go_wp2
    go_ret
    exact ⟨HO.out, .inl ⟨x, rest, _, HP.out, rfl, HV.out⟩⟩
  · have HO := mkH ho
    have HP := mkH hp
    clear H ho hp
    unfold stopE
    go_wp2
    exact ⟨rfl, HO.out, .inr ⟨er, HP.out, her, rfl⟩⟩

set_option maxHeartbeats 400000 in
theorem end_any (w : World) (rb : Nat) (bs : Bs) (hst : Rst w rb bs) (hlen : bs.length ≤ 1000000000) :
    Calls Tryz.prog 210 #[.pointer (some ⟨rb, 0, none⟩)] w fun e w' => w' = w ∧ ((bs.length = 0 ∧ e = .returned (.tuple #[])) ∨ (0 < bs.length ∧ e = stopE 5)) := by
  obtain ⟨ao, cap, hB, hr, hcap, hc63, hn⟩ := hst
  have hc0 : w.cell? ⟨rb, 0, none⟩ = some (.slice ao bs.length cap) := hB.cell 0
  clear hr hB hn
  by_cases h : bs.length = 0
  · rw [h] at hc0
    have HE := mkH h
    clear h hcap
    go_enter Tryz.func210, Tryz.ntmps210
    go_wp2
    go_end0
    exact ⟨rfl, .inl ⟨HE.out, rfl⟩⟩
  · have c1 : (0 : Int) < (bs.length : Int) := by omega
    have c2 : 0 < bs.length := by omega
    clear h
    go_enter Tryz.func210, Tryz.ntmps210
    go_wp2_with fail
    refine (stopAt_bad w 5 (by omega)).mono ?_
    rintro e w2 ⟨rfl, rfl⟩
    unfold stopE
    go_wp2
    exact ⟨rfl, rfl, .inr ⟨c2, rfl⟩⟩
end Go.Proofs.YtgbbajeeelgbhaaGreatDoor.Wq

namespace Go.Proofs.YtgbbajeeelgbhaaGreatDoor.Wq
open Go.RowKit Kt Pl Wi Wk Rd Lt Fw
open At (RowT)
set_option linter.unusedVariables false
set_option linter.unusedSimpArgs false
set_option maxRecDepth 20000

theorem startR {P : Program} {f : FuncId} {args : Array Value} {w : World} {zs : Array Value} {u : TypeId} {R : Ending → World → Prop}
    (h : ∀ W0 Z, Z.size = zs.size → Bx W0 w.heap.size Z u → Gr w W0 → Calls P f args W0 R) : Calls P f args (w.alloc (.cells zs u)) R :=
  h _ zs rfl (Bx.new w zs u) ((Gr.refl w).alloc _)

theorem On.setRow {b g : Nat} {w w' : World} (h : On b w w') (hg : w.heap.size ≤ g) (hne : b ≠ g) (cs : Array Value) : On b w (w'.setRow g cs) :=
  ⟨h.os, h.tape, h.output, by rw [setRow_size]; exact h.size, fun k hk hn => (setRow_other w' g k cs (by omega)).trans (h.block k hk hn)⟩

/-- A store into a block behind the reader's. -/
theorem Rst.setRow {w : World} {rb g : Nat} {bs : Bs} (h : Rst w rb bs) (hg : rb < g) (cs : Array Value) : Rst (w.setRow g cs) rb bs := by
  obtain ⟨ao, cap, hB, hr, h1, h2, h3⟩ := h
  refine ⟨ao, cap, hB.rowOther (by omega) cs, ?_, h1, h2, h3⟩
  intro hl
  obtain ⟨b, off, rfl, hc⟩ := hr hl
  have := h3 hl ⟨b, off, none⟩ rfl
  refine ⟨b, off, rfl, fun i hi => ?_⟩
  rw [World.cell?_of_block (w := w) (a := ⟨b, off + i, none⟩) (setRow_other w g b cs (by simp at this; omega))]
  exact hc i hi

/-- A receipt, a range. -/
def VR (r : Rcp) (v : Value) (w : World) : Prop := v = .agg (Rv r) ∧ r.g.length ≤ 4096

def VP (r : Int × Int) (v : Value) (w : World) : Prop := v = .agg #[.int .i64 r.1, .int .i64 r.2]

theorem info23 : (Tryz.prog.info? 35).map (·.size) = some 4 := by kernel_rfl

theorem info25 : (Tryz.prog.info? 37).map (·.size) = some 2 := by kernel_rfl

theorem info28 : (Tryz.prog.info? 39).map (·.size) = some 19 := by kernel_rfl

set_option maxHeartbeats 8000000 in
theorem receipt_any (w : World) (rb : Nat) (bs : Bs) (hst : Rst w rb bs) (hlen : bs.length ≤ 1000000000) :
    Calls Tryz.prog 214 #[.pointer (some ⟨rb, 0, none⟩)] w fun e w' => Got rb w (pRcp bs) VR e w' := by
  have hlt := hst.lt
  obtain ⟨hsz, -⟩ : w.heap.size = w.heap.size ∧ True := ⟨rfl, trivial⟩
  go_enter Tryz.func214, Tryz.ntmps214
  go_wp2_with fail
  refine startR (fun W0 Z hZ hBz hG => ?_)
  have hst0 := hst.below hG.below
  have HO0 := mkH (On.ofBelow (b := rb) hG.below)
  have HZ := mkH hZ
  have hBz0 := hBz
  have HP0 : Hid (pRcp bs = pRcp bs) := mkH rfl
  have HS0 := mkH hst0
  have HB0 := mkH hBz
  have HNE : Hid (w.heap.size ≠ rb) := mkH (by omega)
  have HGT : Hid (rb < w.heap.size) := mkH hlt
  have HLE : Hid (w.heap.size ≤ w.heap.size) := mkH (Nat.le_refl _)
  clear hst hst0 hBz hBz0 hG hsz hZ
  generalize hbq : w.heap.size = b2 at HB0 HNE HLE HGT ⊢
  have HBQ := mkH hbq
  clear hbq
  have H1 := num_any W0 rb bs HS0.out hlen
  refine H1.mono ?_
  rintro e W1 ⟨ho1, hc1⟩
  have HO1 := mkH (HO0.out.trans ho1)
  have HB1 := mkH (Wq.Bx.on HB0.out HNE.out ho1)
  clear H1 ho1 HO0 HB0 HS0
  rcases hc1 with ⟨q, r1, v, hp, rfl, hv, hs, hl1⟩ | ⟨er, hp, her, rfl⟩
  rotate_left
  · have HE := mkH (HP0.out.trans (bindR_err hp))
    clear hp HP0
    unfold stopE
    go_wp2
    exact ⟨rfl, HO1.out, .inr ⟨er, HE.out, her, rfl⟩⟩
  have HP1 := mkH (HP0.out.trans (bindR_of hp))
  have HS1 := mkH hs
  have hv : v = .int .i64 q := hv
  subst hv
  clear hp hs HP0
  go_wp2_with fail
  have H2 := text_any W1 rb r1 HS1.out hl1
  refine H2.mono ?_
  rintro e W2 ⟨ho2, hc2⟩
  have HO2 := mkH (HO1.out.trans ho2)
  have HB2 := mkH (Wq.Bx.on HB1.out HNE.out ho2)
  clear H2 ho2 HO1 HB1 HS1
  rcases hc2 with ⟨g, r2, v, hp, rfl, hv, hs, hl2⟩ | ⟨er, hp, her, rfl⟩
  rotate_left
  · have HE := mkH (HP1.out.trans (bindR_err hp))
    clear hp HP1
    unfold stopE
    go_wp2
    exact ⟨rfl, HO2.out, .inr ⟨er, HE.out, her, rfl⟩⟩
  have HP2 := mkH (HP1.out.trans (bindR_of hp))
  have HS2 := mkH hs
  obtain ⟨hv, l_g⟩ := hv
  subst hv
  clear hp hs HP1
  go_wp2_with fail
  have H3 := num_any W2 rb r2 HS2.out hl2
  refine H3.mono ?_
  rintro e W3 ⟨ho3, hc3⟩
  have HO3 := mkH (HO2.out.trans ho3)
  have HB3 := mkH (Wq.Bx.on HB2.out HNE.out ho3)
  clear H3 ho3 HO2 HB2 HS2
  rcases hc3 with ⟨s, r3, v, hp, rfl, hv, hs, hl3⟩ | ⟨er, hp, her, rfl⟩
  rotate_left
  · have HE := mkH (HP2.out.trans (bindR_err hp))
    clear hp HP2
    unfold stopE
    go_wp2
    exact ⟨rfl, HO3.out, .inr ⟨er, HE.out, her, rfl⟩⟩
  have HP3 := mkH (HP2.out.trans (bindR_of hp))
  have HS3 := mkH hs
  have hv : v = .int .i64 s := hv
  subst hv
  clear hp hs HP2
  go_wp2_with fail
  have H4 := num_any W3 rb r3 HS3.out hl3
  refine H4.mono ?_
  rintro e W4 ⟨ho4, hc4⟩
  have HO4 := mkH (HO3.out.trans ho4)
  have HB4 := mkH (Wq.Bx.on HB3.out HNE.out ho4)
  clear H4 ho4 HO3 HB3 HS3
  rcases hc4 with ⟨c, r4, v, hp, rfl, hv, hs, hl4⟩ | ⟨er, hp, her, rfl⟩
  rotate_left
  · have HE := mkH (HP3.out.trans (bindR_err hp))
    clear hp HP3
    unfold stopE
    go_wp2
    exact ⟨rfl, HO4.out, .inr ⟨er, HE.out, her, rfl⟩⟩
  have HP4 := mkH (HP3.out.trans (bindR_of hp))
  have HS4 := mkH hs
  have hv : v = .int .i64 c := hv
  subst hv
  clear hp hs HP3
  have hst : Bx W4 b2 Z 35 := HB4.out
  have HI : Hid ((Tryz.prog.info? 35).map (·.size) = some (#[.int .i64 q, .string (S g), .int .i64 s, .int .i64 c] : Array Value).size) := mkH info23
  have HSz : Hid (Z.size = (#[.int .i64 q, .string (S g), .int .i64 s, .int .i64 c] : Array Value).size) := mkH HZ.out
  have HOne : Hid ((#[.int .i64 q, .string (S g), .int .i64 s, .int .i64 c] : Array Value).all (fun x => x.oneCell') = true) := mkH (by rw [List.all_toArray]; rfl)
  have HLd := mkH (load_bx (P := Tryz.prog) (Wk.Bx.row hst (cs := (#[.int .i64 q, .string (S g), .int .i64 s, .int .i64 c] : Array Value)) HSz.out) Tryz.underlying35 rfl HI.out)
  have HBst := mkH hst
  have HOf := mkH (HO4.out.setRow (Nat.le_of_eq HBQ.out) (Ne.symm HNE.out) (#[.int .i64 q, .string (S g), .int .i64 s, .int .i64 c] : Array Value))
  have HSf := mkH (HS4.out.setRow HGT.out (#[.int .i64 q, .string (S g), .int .i64 s, .int .i64 c] : Array Value))
  clear hst
  go_wp2_with (refine wpList_st rfl (ty := 35) (x := .tmp 2) (y := .tmp 11) rfl rfl rfl HBst.out HI.out HSz.out HOne.out ?_)
  refine ret_bx 2 35 rfl b2 rfl HLd.out rfl ?_
  exact ⟨HOf.out, .inl ⟨⟨q, g, s, c⟩, r4, _, HP4.out, rfl, ⟨rfl, l_g⟩, HSf.out, hl4⟩⟩

set_option maxHeartbeats 8000000 in
theorem places_any (w : World) (rb : Nat) (bs : Bs) (hst : Rst w rb bs) (hlen : bs.length ≤ 1000000000) :
    Calls Tryz.prog 215 #[.pointer (some ⟨rb, 0, none⟩)] w fun e w' => Got rb w (pRg bs) VP e w' := by
  have hlt := hst.lt
  obtain ⟨hsz, -⟩ : w.heap.size = w.heap.size ∧ True := ⟨rfl, trivial⟩
  go_enter Tryz.func215, Tryz.ntmps215
  go_wp2_with fail
  refine startR (fun W0 Z hZ hBz hG => ?_)
  have hst0 := hst.below hG.below
  have HO0 := mkH (On.ofBelow (b := rb) hG.below)
  have HZ := mkH hZ
  have hBz0 := hBz
  have HP0 : Hid (pRg bs = pRg bs) := mkH rfl
  have HS0 := mkH hst0
  have HB0 := mkH hBz
  have HNE : Hid (w.heap.size ≠ rb) := mkH (by omega)
  have HGT : Hid (rb < w.heap.size) := mkH hlt
  have HLE : Hid (w.heap.size ≤ w.heap.size) := mkH (Nat.le_refl _)
  clear hst hst0 hBz hBz0 hG hsz hZ
  generalize hbq : w.heap.size = b2 at HB0 HNE HLE HGT ⊢
  have HBQ := mkH hbq
  clear hbq
  have H1 := num_any W0 rb bs HS0.out hlen
  refine H1.mono ?_
  rintro e W1 ⟨ho1, hc1⟩
  have HO1 := mkH (HO0.out.trans ho1)
  have HB1 := mkH (Wq.Bx.on HB0.out HNE.out ho1)
  clear H1 ho1 HO0 HB0 HS0
  rcases hc1 with ⟨lo, r1, v, hp, rfl, hv, hs, hl1⟩ | ⟨er, hp, her, rfl⟩
  rotate_left
  · have HE := mkH (HP0.out.trans (bindR_err hp))
    clear hp HP0
    unfold stopE
    go_wp2
    exact ⟨rfl, HO1.out, .inr ⟨er, HE.out, her, rfl⟩⟩
  have HP1 := mkH (HP0.out.trans (bindR_of hp))
  have HS1 := mkH hs
  have hv : v = .int .i64 lo := hv
  subst hv
  clear hp hs HP0
  go_wp2_with fail
  have H2 := num_any W1 rb r1 HS1.out hl1
  refine H2.mono ?_
  rintro e W2 ⟨ho2, hc2⟩
  have HO2 := mkH (HO1.out.trans ho2)
  have HB2 := mkH (Wq.Bx.on HB1.out HNE.out ho2)
  clear H2 ho2 HO1 HB1 HS1
  rcases hc2 with ⟨hi, r2, v, hp, rfl, hv, hs, hl2⟩ | ⟨er, hp, her, rfl⟩
  rotate_left
  · have HE := mkH (HP1.out.trans (bindR_err hp))
    clear hp HP1
    unfold stopE
    go_wp2
    exact ⟨rfl, HO2.out, .inr ⟨er, HE.out, her, rfl⟩⟩
  have HP2 := mkH (HP1.out.trans (bindR_of hp))
  have HS2 := mkH hs
  have hv : v = .int .i64 hi := hv
  subst hv
  clear hp hs HP1
  have hst : Bx W2 b2 Z 37 := HB2.out
  have HI : Hid ((Tryz.prog.info? 37).map (·.size) = some (#[.int .i64 lo, .int .i64 hi] : Array Value).size) := mkH info25
  have HSz : Hid (Z.size = (#[.int .i64 lo, .int .i64 hi] : Array Value).size) := mkH HZ.out
  have HOne : Hid ((#[.int .i64 lo, .int .i64 hi] : Array Value).all (fun x => x.oneCell') = true) := mkH (by rw [List.all_toArray]; rfl)
  have HLd := mkH (load_bx (P := Tryz.prog) (Wk.Bx.row hst (cs := (#[.int .i64 lo, .int .i64 hi] : Array Value)) HSz.out) Tryz.underlying37 rfl HI.out)
  have HBst := mkH hst
  have HOf := mkH (HO2.out.setRow (Nat.le_of_eq HBQ.out) (Ne.symm HNE.out) (#[.int .i64 lo, .int .i64 hi] : Array Value))
  have HSf := mkH (HS2.out.setRow HGT.out (#[.int .i64 lo, .int .i64 hi] : Array Value))
  clear hst
  go_wp2_with (refine wpList_st rfl (ty := 37) (x := .tmp 2) (y := .tmp 7) rfl rfl rfl HBst.out HI.out HSz.out HOne.out ?_)
  refine ret_bx 2 37 rfl b2 rfl HLd.out rfl ?_
  exact ⟨HOf.out, .inl ⟨(lo, hi), r2, _, HP2.out, rfl, rfl, HSf.out, hl2⟩⟩
end Go.Proofs.YtgbbajeeelgbhaaGreatDoor.Wq

namespace Go.Proofs.YtgbbajeeelgbhaaGreatDoor.Wq
open Go.RowKit Kt Pl Wi Wk Rd Lt Fw
open At (RowT)
set_option linter.unusedVariables false
set_option linter.unusedSimpArgs false
set_option maxRecDepth 20000

/-- A command that was read. -/
def VC (lo : Nat) (c : Cm) (v : Value) (w : World) : Prop := ∃ ao cap, v = .agg (Cv c (.slice ao c.data.length cap)) ∧ RowT w ao c.data ∧ (∀ a, ao = some a → lo ≤ a.block) ∧ c.data.length ≤ 1024

set_option maxHeartbeats 8000000 in
theorem cmd_any (w : World) (rb : Nat) (bs : Bs) (hst : Rst w rb bs) (hlen : bs.length ≤ 1000000000) :
    Calls Tryz.prog 151 #[.pointer (some ⟨rb, 0, none⟩)] w fun e w' => Got rb w (pCm bs) (VC w.heap.size) e w' := by
  have hlt := hst.lt
  obtain ⟨hsz, -⟩ : w.heap.size = w.heap.size ∧ True := ⟨rfl, trivial⟩
  go_enter Tryz.func151, Tryz.ntmps151
  go_wp2_with fail
  refine startR (fun W0 Z hZ hBz hG => ?_)
  have hst0 := hst.below hG.below
  have HO0 := mkH (On.ofBelow (b := rb) hG.below)
  have HZ := mkH hZ
  have hBz0 := hBz
  have HP0 : Hid (pCm bs = pCm bs) := mkH rfl
  have HS0 := mkH hst0
  have HB0 := mkH hBz
  have HNE : Hid (w.heap.size ≠ rb) := mkH (by omega)
  have HGT : Hid (rb < w.heap.size) := mkH hlt
  have HLE : Hid (w.heap.size ≤ w.heap.size) := mkH (Nat.le_refl _)
  clear hst hst0 hBz hBz0 hG hsz hZ
  generalize hbq : w.heap.size = b2 at HB0 HNE HLE HGT ⊢
  have HBQ := mkH hbq
  clear hbq
  have H1 := num_any W0 rb bs HS0.out hlen
  refine H1.mono ?_
  rintro e W1 ⟨ho1, hc1⟩
  have HO1 := mkH (HO0.out.trans ho1)
  have HB1 := mkH (Wq.Bx.on HB0.out HNE.out ho1)
  clear H1 ho1 HO0 HB0 HS0
  rcases hc1 with ⟨kind, r1, v, hp, rfl, hv, hs, hl1⟩ | ⟨er, hp, her, rfl⟩
  rotate_left
  · have HE := mkH (HP0.out.trans (bindR_err hp))
    clear hp HP0
    unfold stopE
    go_wp2
    exact ⟨rfl, HO1.out, .inr ⟨er, HE.out, her, rfl⟩⟩
  have HP1 := mkH (HP0.out.trans (bindR_of hp))
  have HS1 := mkH hs
  have hv : v = .int .i64 kind := hv
  subst hv
  clear hp hs HP0
  go_wp2_with fail
  have H2 := num_any W1 rb r1 HS1.out hl1
  refine H2.mono ?_
  rintro e W2 ⟨ho2, hc2⟩
  have HO2 := mkH (HO1.out.trans ho2)
  have HB2 := mkH (Wq.Bx.on HB1.out HNE.out ho2)
  clear H2 ho2 HO1 HB1 HS1
  rcases hc2 with ⟨client, r2, v, hp, rfl, hv, hs, hl2⟩ | ⟨er, hp, her, rfl⟩
  rotate_left
  · have HE := mkH (HP1.out.trans (bindR_err hp))
    clear hp HP1
    unfold stopE
    go_wp2
    exact ⟨rfl, HO2.out, .inr ⟨er, HE.out, her, rfl⟩⟩
  have HP2 := mkH (HP1.out.trans (bindR_of hp))
  have HS2 := mkH hs
  have hv : v = .int .i64 client := hv
  subst hv
  clear hp hs HP1
  go_wp2_with fail
  have H3 := num_any W2 rb r2 HS2.out hl2
  refine H3.mono ?_
  rintro e W3 ⟨ho3, hc3⟩
  have HO3 := mkH (HO2.out.trans ho3)
  have HB3 := mkH (Wq.Bx.on HB2.out HNE.out ho3)
  clear H3 ho3 HO2 HB2 HS2
  rcases hc3 with ⟨num, r3, v, hp, rfl, hv, hs, hl3⟩ | ⟨er, hp, her, rfl⟩
  rotate_left
  · have HE := mkH (HP2.out.trans (bindR_err hp))
    clear hp HP2
    unfold stopE
    go_wp2
    exact ⟨rfl, HO3.out, .inr ⟨er, HE.out, her, rfl⟩⟩
  have HP3 := mkH (HP2.out.trans (bindR_of hp))
  have HS3 := mkH hs
  have hv : v = .int .i64 num := hv
  subst hv
  clear hp hs HP2
  go_wp2_with fail
  have H4 := num_any W3 rb r3 HS3.out hl3
  refine H4.mono ?_
  rintro e W4 ⟨ho4, hc4⟩
  have HO4 := mkH (HO3.out.trans ho4)
  have HB4 := mkH (Wq.Bx.on HB3.out HNE.out ho4)
  clear H4 ho4 HO3 HB3 HS3
  rcases hc4 with ⟨time, r4, v, hp, rfl, hv, hs, hl4⟩ | ⟨er, hp, her, rfl⟩
  rotate_left
  · have HE := mkH (HP3.out.trans (bindR_err hp))
    clear hp HP3
    unfold stopE
    go_wp2
    exact ⟨rfl, HO4.out, .inr ⟨er, HE.out, her, rfl⟩⟩
  have HP4 := mkH (HP3.out.trans (bindR_of hp))
  have HS4 := mkH hs
  have hv : v = .int .i64 time := hv
  subst hv
  clear hp hs HP3
  go_wp2_with fail
  have H5 := num_any W4 rb r4 HS4.out hl4
  refine H5.mono ?_
  rintro e W5 ⟨ho5, hc5⟩
  have HO5 := mkH (HO4.out.trans ho5)
  have HB5 := mkH (Wq.Bx.on HB4.out HNE.out ho5)
  clear H5 ho5 HO4 HB4 HS4
  rcases hc5 with ⟨queue, r5, v, hp, rfl, hv, hs, hl5⟩ | ⟨er, hp, her, rfl⟩
  rotate_left
  · have HE := mkH (HP4.out.trans (bindR_err hp))
    clear hp HP4
    unfold stopE
    go_wp2
    exact ⟨rfl, HO5.out, .inr ⟨er, HE.out, her, rfl⟩⟩
  have HP5 := mkH (HP4.out.trans (bindR_of hp))
  have HS5 := mkH hs
  have hv : v = .int .i64 queue := hv
  subst hv
  clear hp hs HP4
  go_wp2_with fail
  have H6 := text_any W5 rb r5 HS5.out hl5
  refine H6.mono ?_
  rintro e W6 ⟨ho6, hc6⟩
  have HO6 := mkH (HO5.out.trans ho6)
  have HB6 := mkH (Wq.Bx.on HB5.out HNE.out ho6)
  clear H6 ho6 HO5 HB5 HS5
  rcases hc6 with ⟨group, r6, v, hp, rfl, hv, hs, hl6⟩ | ⟨er, hp, her, rfl⟩
  rotate_left
  · have HE := mkH (HP5.out.trans (bindR_err hp))
    clear hp HP5
    unfold stopE
    go_wp2
    exact ⟨rfl, HO6.out, .inr ⟨er, HE.out, her, rfl⟩⟩
  have HP6 := mkH (HP5.out.trans (bindR_of hp))
  have HS6 := mkH hs
  obtain ⟨hv, l_group⟩ := hv
  subst hv
  clear hp hs HP5
  go_wp2_with fail
  have H7 := text_any W6 rb r6 HS6.out hl6
  refine H7.mono ?_
  rintro e W7 ⟨ho7, hc7⟩
  have HO7 := mkH (HO6.out.trans ho7)
  have HB7 := mkH (Wq.Bx.on HB6.out HNE.out ho7)
  clear H7 ho7 HO6 HB6 HS6
  rcases hc7 with ⟨body, r7, v, hp, rfl, hv, hs, hl7⟩ | ⟨er, hp, her, rfl⟩
  rotate_left
  · have HE := mkH (HP6.out.trans (bindR_err hp))
    clear hp HP6
    unfold stopE
    go_wp2
    exact ⟨rfl, HO7.out, .inr ⟨er, HE.out, her, rfl⟩⟩
  have HP7 := mkH (HP6.out.trans (bindR_of hp))
  have HS7 := mkH hs
  obtain ⟨hv, l_body⟩ := hv
  subst hv
  clear hp hs HP6
  go_wp2_with fail
  have H8 := text_any W7 rb r7 HS7.out hl7
  refine H8.mono ?_
  rintro e W8 ⟨ho8, hc8⟩
  have HO8 := mkH (HO7.out.trans ho8)
  have HB8 := mkH (Wq.Bx.on HB7.out HNE.out ho8)
  clear H8 ho8 HO7 HB7 HS7
  rcases hc8 with ⟨token, r8, v, hp, rfl, hv, hs, hl8⟩ | ⟨er, hp, her, rfl⟩
  rotate_left
  · have HE := mkH (HP7.out.trans (bindR_err hp))
    clear hp HP7
    unfold stopE
    go_wp2
    exact ⟨rfl, HO8.out, .inr ⟨er, HE.out, her, rfl⟩⟩
  have HP8 := mkH (HP7.out.trans (bindR_of hp))
  have HS8 := mkH hs
  obtain ⟨hv, l_token⟩ := hv
  subst hv
  clear hp hs HP7
  go_wp2_with fail
  have H9 := text_any W8 rb r8 HS8.out hl8
  refine H9.mono ?_
  rintro e W9 ⟨ho9, hc9⟩
  have HO9 := mkH (HO8.out.trans ho9)
  have HB9 := mkH (Wq.Bx.on HB8.out HNE.out ho9)
  clear H9 ho9 HO8 HB8 HS8
  rcases hc9 with ⟨attempt, r9, v, hp, rfl, hv, hs, hl9⟩ | ⟨er, hp, her, rfl⟩
  rotate_left
  · have HE := mkH (HP8.out.trans (bindR_err hp))
    clear hp HP8
    unfold stopE
    go_wp2
    exact ⟨rfl, HO9.out, .inr ⟨er, HE.out, her, rfl⟩⟩
  have HP9 := mkH (HP8.out.trans (bindR_of hp))
  have HS9 := mkH hs
  obtain ⟨hv, l_attempt⟩ := hv
  subst hv
  clear hp hs HP8
  go_wp2_with fail
  have H10 := num_any W9 rb r9 HS9.out hl9
  refine H10.mono ?_
  rintro e W10 ⟨ho10, hc10⟩
  have HO10 := mkH (HO9.out.trans ho10)
  have HB10 := mkH (Wq.Bx.on HB9.out HNE.out ho10)
  clear H10 ho10 HO9 HB9 HS9
  rcases hc10 with ⟨max, r10, v, hp, rfl, hv, hs, hl10⟩ | ⟨er, hp, her, rfl⟩
  rotate_left
  · have HE := mkH (HP9.out.trans (bindR_err hp))
    clear hp HP9
    unfold stopE
    go_wp2
    exact ⟨rfl, HO10.out, .inr ⟨er, HE.out, her, rfl⟩⟩
  have HP10 := mkH (HP9.out.trans (bindR_of hp))
  have HS10 := mkH hs
  have hv : v = .int .i64 max := hv
  subst hv
  clear hp hs HP9
  go_wp2_with fail
  have H11 := num_any W10 rb r10 HS10.out hl10
  refine H11.mono ?_
  rintro e W11 ⟨ho11, hc11⟩
  have HO11 := mkH (HO10.out.trans ho11)
  have HB11 := mkH (Wq.Bx.on HB10.out HNE.out ho11)
  clear H11 ho11 HO10 HB10 HS10
  rcases hc11 with ⟨secs, r11, v, hp, rfl, hv, hs, hl11⟩ | ⟨er, hp, her, rfl⟩
  rotate_left
  · have HE := mkH (HP10.out.trans (bindR_err hp))
    clear hp HP10
    unfold stopE
    go_wp2
    exact ⟨rfl, HO11.out, .inr ⟨er, HE.out, her, rfl⟩⟩
  have HP11 := mkH (HP10.out.trans (bindR_of hp))
  have HS11 := mkH hs
  have hv : v = .int .i64 secs := hv
  subst hv
  clear hp hs HP10
  go_wp2_with fail
  have H12 := receipt_any W11 rb r11 HS11.out hl11
  refine H12.mono ?_
  rintro e W12 ⟨ho12, hc12⟩
  have HO12 := mkH (HO11.out.trans ho12)
  have HB12 := mkH (Wq.Bx.on HB11.out HNE.out ho12)
  clear H12 ho12 HO11 HB11 HS11
  rcases hc12 with ⟨rc, r12, v, hp, rfl, hv, hs, hl12⟩ | ⟨er, hp, her, rfl⟩
  rotate_left
  · have HE := mkH (HP11.out.trans (bindR_err hp))
    clear hp HP11
    unfold stopE
    go_wp2
    exact ⟨rfl, HO12.out, .inr ⟨er, HE.out, her, rfl⟩⟩
  have HP12 := mkH (HP11.out.trans (bindR_of hp))
  have HS12 := mkH hs
  obtain ⟨hv, l_rc⟩ := hv
  have hv : v = .agg #[.int .i64 rc.q, .string (S rc.g), .int .i64 rc.s, .int .i64 rc.c] := hv
  subst hv
  clear hp hs HP11
  go_wp2_with fail
  have H13 := places_any W12 rb r12 HS12.out hl12
  refine H13.mono ?_
  rintro e W13 ⟨ho13, hc13⟩
  have HO13 := mkH (HO12.out.trans ho13)
  have HB13 := mkH (Wq.Bx.on HB12.out HNE.out ho13)
  clear H13 ho13 HO12 HB12 HS12
  rcases hc13 with ⟨rg, r13, v, hp, rfl, hv, hs, hl13⟩ | ⟨er, hp, her, rfl⟩
  rotate_left
  · have HE := mkH (HP12.out.trans (bindR_err hp))
    clear hp HP12
    unfold stopE
    go_wp2
    exact ⟨rfl, HO13.out, .inr ⟨er, HE.out, her, rfl⟩⟩
  have HP13 := mkH (HP12.out.trans (bindR_of hp))
  have HS13 := mkH hs
  have hv : v = .agg #[.int .i64 rg.1, .int .i64 rg.2] := hv
  subst hv
  clear hp hs HP12
  go_wp2_with fail
  have H14 := num_any W13 rb r13 HS13.out hl13
  refine H14.mono ?_
  rintro e W14 ⟨ho14, hc14⟩
  have HO14 := mkH (HO13.out.trans ho14)
  have HB14 := mkH (Wq.Bx.on HB13.out HNE.out ho14)
  clear H14 ho14 HO13 HB13 HS13
  rcases hc14 with ⟨tO, r14, v, hp, rfl, hv, hs, hl14⟩ | ⟨er, hp, her, rfl⟩
  rotate_left
  · have HE := mkH (HP13.out.trans (bindR_err hp))
    clear hp HP13
    unfold stopE
    go_wp2
    exact ⟨rfl, HO14.out, .inr ⟨er, HE.out, her, rfl⟩⟩
  have HP14 := mkH (HP13.out.trans (bindR_of hp))
  have HS14 := mkH hs
  have hv : v = .int .i64 tO := hv
  subst hv
  clear hp hs HP13
  go_wp2_with fail
  have HBp : Hid (b2 < W14.heap.size) := mkH HB14.out.lt
  have HSp : Hid (w.heap.size ≤ W14.heap.size) := mkH HO14.out.size
  have H15 := data_any W14 rb r14 HS14.out hl14
  refine H15.mono ?_
  rintro e W15 ⟨ho15, hc15⟩
  have HO15 := mkH (HO14.out.trans ho15)
  have HB15 := mkH (Wq.Bx.on HB14.out HNE.out ho15)
  clear H15 ho15 HO14 HB14 HS14
  rcases hc15 with ⟨data, r15, v, hp, rfl, hv, hs, hl15⟩ | ⟨er, hp, her, rfl⟩
  rotate_left
  · have HE := mkH (HP14.out.trans (bindR_err hp))
    clear hp HP14
    unfold stopE
    go_wp2
    exact ⟨rfl, HO15.out, .inr ⟨er, HE.out, her, rfl⟩⟩
  have HP15 := mkH (HP14.out.trans (bindR_of hp))
  have HS15 := mkH hs
  obtain ⟨ad, cd, rfl, hrow, hne, l_data⟩ := hv
  have HRow := mkH hrow
  have HFar : Hid (∀ a, ad = some a → a.block ≠ b2) := mkH (fun a ha => by have h1 := hne a ha; have h2 := HBp.out; omega)
  have HNe : Hid (∀ a, ad = some a → w.heap.size ≤ a.block) := mkH (fun a ha => by have h1 := hne a ha; have h2 := HSp.out; omega)
  clear hrow hne
  clear hp hs HP14
  have hst : Bx W15 b2 Z 39 := HB15.out
  have HI : Hid ((Tryz.prog.info? 39).map (·.size) = some (Cv ⟨kind, client, num, time, queue, group, body, token, attempt, max, secs, rc, rg.1, rg.2, tO, data⟩ (.slice ad data.length cd)).size) := mkH info28
  have HSz : Hid (Z.size = (Cv ⟨kind, client, num, time, queue, group, body, token, attempt, max, secs, rc, rg.1, rg.2, tO, data⟩ (.slice ad data.length cd)).size) := mkH HZ.out
  have HOne : Hid ((Cv ⟨kind, client, num, time, queue, group, body, token, attempt, max, secs, rc, rg.1, rg.2, tO, data⟩ (.slice ad data.length cd)).all (fun x => x.oneCell') = true) := mkH (by unfold Cv; rw [List.all_toArray]; rfl)
  have HLd := mkH (load_bx (P := Tryz.prog) (Wk.Bx.row hst (cs := (Cv ⟨kind, client, num, time, queue, group, body, token, attempt, max, secs, rc, rg.1, rg.2, tO, data⟩ (.slice ad data.length cd))) HSz.out) Tryz.underlying39 rfl HI.out)
  have HBst := mkH hst
  have HOf := mkH (HO15.out.setRow (Nat.le_of_eq HBQ.out) (Ne.symm HNE.out) (Cv ⟨kind, client, num, time, queue, group, body, token, attempt, max, secs, rc, rg.1, rg.2, tO, data⟩ (.slice ad data.length cd)))
  have HSf := mkH (HS15.out.setRow HGT.out (Cv ⟨kind, client, num, time, queue, group, body, token, attempt, max, secs, rc, rg.1, rg.2, tO, data⟩ (.slice ad data.length cd)))
  clear hst
  go_wp2_with (refine wpList_st rfl (ty := 39) (x := .tmp 2) (y := .tmp 33) rfl rfl rfl HBst.out HI.out HSz.out HOne.out ?_)
  refine ret_bx 2 39 rfl b2 rfl HLd.out rfl ?_
  exact ⟨HOf.out, .inl ⟨⟨kind, client, num, time, queue, group, body, token, attempt, max, secs, rc, rg.1, rg.2, tO, data⟩, r15, _, HP15.out, rfl, ⟨ad, cd, rfl, Wk.RowT.setRow HRow.out (fun a ha => HFar.out a ha) _, HNe.out, l_data⟩, HSf.out, hl15⟩⟩
end Go.Proofs.YtgbbajeeelgbhaaGreatDoor.Wq

namespace Go.Proofs.YtgbbajeeelgbhaaGreatDoor.Wfw
open Go.RowKit Kt Pl Wi Wk Ww Wx We Wf Wy Wb
open At (RowT okT)
set_option linter.unusedVariables false
set_option linter.unusedSimpArgs false
set_option maxRecDepth 20000

theorem start2 {P : Program} {id : Nat} {ops : Array Oper} {b : Bool} {Q : Exit → Act → World → Prop} {a : Act} {w : World} {cs zs : Array Value} {t u : TypeId}
    (h : ∀ W0 Z, Z.size = zs.size → Bx W0 w.heap.size cs t → Bx W0 (w.heap.size + 1) Z u → Gr w W0 → (Code.region id ops b).wp P Q a W0) : (Code.region id ops b).wp P Q a ((w.alloc (.cells cs t)).alloc (.cells zs u)) :=
  h _ zs rfl ((Bx.new w cs t).alloc _) (by have := Bx.new (w.alloc (.cells cs t)) zs u; simpa using this) (((Gr.refl w).alloc _).alloc _)

/-- A command that came out: its data of memory since w. -/
def CmOut (w : World) (c : Cm) (e : Ending) (w' : World) : Prop := ∃ ao cap, e = .returned (.agg (Cv c (.slice ao c.data.length cap))) ∧ RowT w' ao c.data ∧ (∀ a, ao = some a → w.heap.size ≤ a.block) ∧ Below w.heap.size w w'
/-- Texts that a machine can hold. -/
def Fit63 (c : Cm) : Prop := c.group.length ≤ 9223372036854775807 ∧ c.body.length ≤ 9223372036854775807 ∧ c.token.length ≤ 9223372036854775807 ∧ c.attempt.length ≤ 9223372036854775807 ∧ c.rc.g.length ≤ 9223372036854775807 ∧ c.data.length ≤ 9223372036854775807
theorem Cv_one (c : Cm) (ao : Option Addr) (n cap : Nat) : (Cv c (.slice ao n cap)).all (fun x => x.oneCell') = true := by unfold Cv; rw [List.all_toArray]; rfl
end Go.Proofs.YtgbbajeeelgbhaaGreatDoor.Wfw

namespace Go.Proofs.YtgbbajeeelgbhaaGreatDoor.Wo
open Go.RowKit Kt Pl Wi Wk Ww Wx We Wf Wy Wb Wfw
open At (RowT okT)
set_option linter.unusedVariables false
set_option linter.unusedSimpArgs false
set_option maxRecDepth 20000

def cw : Cm := ⟨1, 1, 2, 3, 0, [103], [98], [], [], 0, 0, Rcp.none, 0, 0, 0, []⟩
theorem cw_ok : checkC cw = 0 := by decide
theorem cw_bytes : encCm cw = [1, 1, 2, 3, 0, 1, 103, 1, 98, 0, 0, 0, 0, 0, 0, 0, 0, 0, 0, 0, 0] := by
  have e0 : enc 0 = [0] := by rw [enc_lt (by omega)]; rfl
  have e1 : enc 1 = [1] := by rw [enc_lt (by omega)]; rfl
  have e2 : enc 2 = [2] := by rw [enc_lt (by omega)]; rfl
  have e3 : enc 3 = [3] := by rw [enc_lt (by omega)]; rfl
  simp [encCm, cw, encN, encText, encRcp, encRg, encList, Rcp.none, e0, e1, e2, e3]
theorem RowT.nil (w : World) (ao : Option Addr) : RowT w ao [] := fun h => by simp at h
theorem Wt.row {w : World} {base : Nat} {v : Value} {bs : Bs} (h : Wt w base v bs) : ∃ ao cap, v = .slice ao bs.length cap ∧ Row w ao bs ∧ bs.length ≤ cap ∧ cap ≤ 9223372036854775807 := by
  obtain ⟨ao, cap, rfl⟩ := own_form h
  exact ⟨ao, cap, rfl, (Row.own h).2.2, (Row.own h).2.1, own_cap h⟩
end Go.Proofs.YtgbbajeeelgbhaaGreatDoor.Wo
