/-
  The reader of wire: stopAt, part, num, text, data, end.
-/
import Derived.Test.YtjboldahmndkeaaWiT
namespace Go.Proofs.Ytjboldahmndkeaa.Wq
open Go.RowKit Kt Pl Wi Wk Rd Lt Fw
open At (RowT)
set_option linter.unusedVariables false
set_option linter.unusedSimpArgs false
set_option maxRecDepth 20000

/-- What a reader stops with. -/
def stopE (er : Nat) : Ending := .panicked [{ v := .iface 97 (.agg #[.int .i64 er]), recovered := false }]
theorem stopAt_ok (w : World) : Calls Try.prog 65 #[.int .i64 0] w fun e w' => e = .returned (.tuple #[]) ∧ w' = w := by
  go_enter Try.func65, Try.ntmps65
  go_wp2
  go_end0
  exact ⟨rfl, rfl⟩
theorem stopAt_bad (w : World) (er : Nat) (h : er ≠ 0) : Calls Try.prog 65 #[.int .i64 er] w fun e w' => e = stopE er ∧ w' = w := by
  have te : ((er : Int) == 0) = false := by simp; omega
  clear h
  go_enter Try.func65, Try.ntmps65
  go_wp2
  exact ⟨rfl, rfl, rfl⟩

/-- Nothing old has turned but the block rb. -/
def On (rb : Nat) (w w' : World) : Prop := w.grownBy w' (some rb)
theorem On.refl (b : Nat) (w : World) : On b w w := ⟨rfl, rfl, rfl, Nat.le_refl _, fun _ _ _ => rfl⟩
theorem On.trans {b : Nat} {w w1 w2 : World} (h : On b w w1) (k : On b w1 w2) : On b w w2 :=
  ⟨k.os.trans h.os, k.tape.trans h.tape, k.output.trans h.output, Nat.le_trans h.size k.size, fun i hi hne => (k.block i (Nat.lt_of_lt_of_le hi h.size) hne).trans (h.block i hi hne)⟩
theorem On.ofBelow {b : Nat} {w w' : World} (h : Below w.heap.size w w') : On b w w' := ⟨h.os, h.tape, h.output, h.size, fun k hk _ => h.block k hk⟩
theorem On.setCell {b : Nat} {w w' : World} (h : On b w w') (k : Nat) (v : Value) : On b w (w'.setCell ⟨b, k, none⟩ v) :=
  h.trans ⟨rfl, rfl, rfl, by simp, fun i _ hne => heap_setCell_other w' ⟨b, k, none⟩ i v (fun e => hne (by rw [e]))⟩
theorem On.heap {b : Nat} {w w' : World} (h : On b w w') {k : Nat} (hk : k < w.heap.size) (hne : k ≠ b) : w'.heap[k]? = w.heap[k]? := h.block k hk (by simpa using hne)
theorem On.below {b B : Nat} {w w' : World} (h : On b w w') (hb : B ≤ b) (hs : B ≤ w.heap.size) : Below B w w' := ⟨h.os, h.tape, h.output, h.size, fun k hk => h.heap (by omega) (by omega)⟩

/-- A row of bytes whose memory is not the reader's. -/
theorem Row.on {w w' : World} {rb : Nat} {ao : Option Addr} {bs : Bs} (h : Row w ao bs) (hn : 0 < bs.length → ∀ a, ao = some a → a.block < rb) (ho : On rb w w') : Row w' ao bs := by
  intro hl
  obtain ⟨b, off, rfl, hc⟩ := h hl
  refine ⟨b, off, rfl, fun i hi => ?_⟩
  have h1 := hc i hi
  rw [World.cell?_of_block (w := w) (a := ⟨b, off + i, none⟩) (ho.heap (World.block_lt_of_cell? w _ h1) (Nat.ne_of_lt (hn hl ⟨b, off, none⟩ rfl)))]
  exact h1
theorem RowT.on {w w' : World} {rb : Nat} {ao : Option Addr} {l : List Bs} (h : RowT w ao l) (hn : ∀ a, ao = some a → a.block ≠ rb) (ho : On rb w w') : RowT w' ao l := by
  intro hl
  obtain ⟨b, off, rfl, hc⟩ := h hl
  refine ⟨b, off, rfl, fun i hi => ?_⟩
  have h1 := hc i hi
  rw [World.cell?_of_block (w := w) (a := ⟨b, off + i, none⟩) (ho.heap (World.block_lt_of_cell? w _ h1) (hn ⟨b, off, none⟩ rfl))]
  exact h1
theorem Bx.on {w w' : World} {rb b : Nat} {cs : Array Value} {t : TypeId} (h : Bx w b cs t) (hn : b ≠ rb) (ho : On rb w w') : Bx w' b cs t := (ho.heap h.lt hn).trans h

/-- The reader in block rb has these bytes left. -/
def Rst (w : World) (rb : Nat) (bs : Bs) : Prop := ∃ ao cap, Bx w rb #[.slice ao bs.length cap] 81 ∧ Row w ao bs ∧ bs.length ≤ cap ∧ cap ≤ 9223372036854775807 ∧ (0 < bs.length → ∀ a, ao = some a → a.block < rb)
theorem Rst.lt {w : World} {rb : Nat} {bs : Bs} (h : Rst w rb bs) : rb < w.heap.size := by obtain ⟨_, _, h, _⟩ := h; exact h.lt
theorem Rst.below {w w' : World} {rb : Nat} {bs : Bs} (h : Rst w rb bs) (hb : Below w.heap.size w w') : Rst w' rb bs := by
  obtain ⟨ao, cap, h1, h2, h3⟩ := h
  exact ⟨ao, cap, h1.below hb h1.lt, h2.below hb, h3⟩

/-- What a reading hands back: the part, by V, and what is left; or it stops. -/
def Got (rb : Nat) (w : World) {α : Type} (r : Except Nat (α × Bs)) (V : α → Value → World → Prop) (e : Ending) (w' : World) : Prop :=
  On rb w w' ∧ ((∃ x rest v, r = .ok (x, rest) ∧ e = .returned v ∧ V x v w' ∧ Rst w' rb rest ∧ rest.length ≤ 1000000000) ∨ (∃ er, r = .error er ∧ er ≠ 0 ∧ e = stopE er))
def VI (x : Int) (v : Value) (w : World) : Prop := v = .int .i64 x
def VT (x : Bs) (v : Value) (w : World) : Prop := v = .string (S x) ∧ x.length ≤ 4096
def VD (lo : Nat) (l : List Bs) (v : Value) (w : World) : Prop := ∃ ao cap, v = .slice ao l.length cap ∧ RowT w ao l ∧ (∀ a, ao = some a → lo ≤ a.block) ∧ l.length ≤ 1024
theorem VD.on {rb lo : Nat} {l : List Bs} {v : Value} {w w' : World} (h : VD lo l v w) (hlo : rb < lo) (ho : On rb w w') : VD lo l v w' := by
  obtain ⟨ao, cap, e, hr, hn, hl⟩ := h
  exact ⟨ao, cap, e, RowT.on hr (fun a ha => by have := hn a ha; omega) ho, hn, hl⟩
theorem slice_map (ao : Option Addr) (k cap : Nat) : ∀ a, (if cap = k then ao else Option.map (fun x => x.add k) ao) = some a → ∃ a0, ao = some a0 ∧ a0.block = a.block := by
  intro a h
  split at h
  · exact ⟨a, h, rfl⟩
  · cases ao with
    | none => simp at h
    | some a0 => simp at h; exact ⟨a0, rfl, by rw [← h]; unfold Addr.add; split <;> rfl⟩

theorem pNum_cases (bs : Bs) : (∃ n k, readNum bs = (n, k, 0) ∧ 1 ≤ k ∧ k ≤ bs.length ∧ pNum bs = .ok ((n : Int), bs.drop k)) ∨ (∃ er, er ≠ 0 ∧ readNum bs = (0, 0, er) ∧ pNum bs = .error er) := by
  unfold pNum
  rcases readNum_err bs with ⟨n, k, h⟩ | h | h
  · left; have := readNum_once h; exact ⟨n, k, h, this.1, this.2.1, by rw [h]; simp⟩
  · right; exact ⟨4, by omega, h, by rw [h]; simp⟩
  · right; exact ⟨5, by omega, h, by rw [h]; simp⟩
theorem pText_cases (bs : Bs) : (∃ s k, readText bs = (s, k, 0) ∧ s.length ≤ 4096 ∧ k ≤ bs.length ∧ pText bs = .ok (s, bs.drop k)) ∨ (∃ er, er ≠ 0 ∧ readText bs = ([], 0, er) ∧ pText bs = .error er) := by
  unfold pText ofRead
  rcases readText_err bs with ⟨s, k, h⟩ | ⟨er, he, h⟩
  · left; have := readText_once h; exact ⟨s, k, h, this.2.2.1, this.2.1, by rw [h]; simp⟩
  · right; exact ⟨er, he, h, by rw [h]; simp [he]⟩
theorem pData_cases (bs : Bs) : (∃ l k, readList readText bs = (l, k, 0) ∧ l.length ≤ 1024 ∧ k ≤ bs.length ∧ pData bs = .ok (l, bs.drop k)) ∨ (∃ er l k, er ≠ 0 ∧ readList readText bs = (l, k, er) ∧ pData bs = .error er) := by
  unfold pData ofRead
  by_cases h : (readList readText bs).2.2 = 0
  · left
    have hr : readList readText bs = ((readList readText bs).1, (readList readText bs).2.1, 0) := by rw [← h]
    obtain ⟨a1, a2, a3⟩ := readList_once (e := encText) (fun bs x k hx => ⟨(readText_once hx).2.1, (readText_once hx).2.2.2⟩) hr
    exact ⟨_, _, hr, a2, a1, by simp [h]⟩
  · right; exact ⟨_, _, _, h, rfl, by simp [h]⟩

set_option maxHeartbeats 2000000 in
theorem partI_any (w : World) (rb : Nat) (bs : Bs) (hst : Rst w rb bs) (hlen : bs.length ≤ 1000000000) :
    Calls Try.prog 87 #[.pointer (some ⟨rb, 0, none⟩), .func (Fn.func 88) #[] #[]] w fun e w' => Got rb w (pNum bs) VI e w' := by
  obtain ⟨ao, cap, hB, hr, hcap, hc63, hn⟩ := hst
  have hc0 : w.cell? ⟨rb, 0, none⟩ = some (.slice ao bs.length cap) := hB.cell 0
  have hz0 := hB.frozen 0
  have HC := readNum_any w ao cap bs hr hlen
  have HR := mkH hr
  have HB := mkH hB
  have HN := mkH hn
  have hlt := hB.lt
  clear hr hB hn
  rcases pNum_cases bs with ⟨n, k, h, hk1, hk, hp⟩ | ⟨er, her, h, hp⟩
  · have HP := mkH hp
    rw [h] at HC
    have HRd := mkH (Row_drop HR.out (k := k) hcap)
    have HMap := mkH (slice_map ao k cap)
    obtain ⟨aq, haq⟩ : ∃ aq, (if cap = k then ao else Option.map (fun x => x.add k) ao) = aq := ⟨_, rfl⟩
    rw [haq] at HRd HMap
    clear h hp
    go_enter Try.func87, Try.ntmps87
    go_wp2_with fail
    refine HC.mono ?_
    unfold ans
    rintro e w1 ⟨rfl, rfl⟩
    clear HC
    go_wp2_with fail
    refine (stopAt_ok _).mono ?_
    rintro e w2 ⟨rfl, rfl⟩
    go_wp2
    go_ret
    refine ⟨(On.refl rb _).setCell 0 _, .inl ⟨(n : Int), bs.drop k, _, HP.out, rfl, rfl, ?_, by rw [List.length_drop]; omega⟩⟩
    refine ⟨aq, cap - k, ?_, ?_, by rw [List.length_drop]; omega, by omega, fun hpos a ha => by obtain ⟨a0, h0, h1⟩ := HMap.out a ha; rw [← h1]; exact HN.out (by rw [List.length_drop] at hpos; omega) a0 h0⟩
    · have := HB.out.set 0 (.slice aq (bs.length - k) (cap - k)); rw [List.length_drop]; exact this
    · exact Row.on HRd.out (fun hpos a ha => by obtain ⟨a0, h0, h1⟩ := HMap.out a ha; rw [← h1]; exact HN.out (by rw [List.length_drop] at hpos; omega) a0 h0) ((On.refl rb _).setCell 0 _)
  · have HP := mkH hp
    rw [h] at HC
    clear h hp
    go_enter Try.func87, Try.ntmps87
    go_wp2_with fail
    refine HC.mono ?_
    unfold ans
    rintro e w1 ⟨rfl, rfl⟩
    clear HC
    have HON := mkH (On.refl rb w1)
    go_wp2_with fail
    refine (stopAt_bad _ er her).mono ?_
    rintro e w2 ⟨rfl, rfl⟩
    unfold stopE
    go_wp2
    exact ⟨rfl, HON.out, .inr ⟨er, HP.out, her, rfl⟩⟩

set_option maxHeartbeats 2000000 in
theorem partT_any (w : World) (rb : Nat) (bs : Bs) (hst : Rst w rb bs) (hlen : bs.length ≤ 1000000000) :
    Calls Try.prog 89 #[.pointer (some ⟨rb, 0, none⟩), .func (Fn.func 90) #[] #[]] w fun e w' => Got rb w (pText bs) VT e w' := by
  obtain ⟨ao, cap, hB, hr, hcap, hc63, hn⟩ := hst
  have hc0 : w.cell? ⟨rb, 0, none⟩ = some (.slice ao bs.length cap) := hB.cell 0
  have hz0 := hB.frozen 0
  have HC := readText_any w ao cap bs hr hlen hcap hc63
  have HR := mkH hr
  have HB := mkH hB
  have HN := mkH hn
  have hlt := hB.lt
  clear hr hB hn
  rcases pText_cases bs with ⟨n, k, h, hs, hk, hp⟩ | ⟨er, her, h, hp⟩
  · have HP := mkH hp
    rw [h] at HC
    have HRd := mkH (Row_drop HR.out (k := k) hcap)
    have HMap := mkH (slice_map ao k cap)
    obtain ⟨aq, haq⟩ : ∃ aq, (if cap = k then ao else Option.map (fun x => x.add k) ao) = aq := ⟨_, rfl⟩
    rw [haq] at HRd HMap
    clear h hp
    go_enter Try.func89, Try.ntmps89
    go_wp2_with fail
    refine HC.mono ?_
    unfold ansT
    rintro e w1 ⟨rfl, rfl⟩
    clear HC
    go_wp2_with fail
    refine (stopAt_ok _).mono ?_
    rintro e w2 ⟨rfl, rfl⟩
    go_wp2
    go_ret
    refine ⟨(On.refl rb _).setCell 0 _, .inl ⟨n, bs.drop k, _, HP.out, rfl, ⟨rfl, hs⟩, ?_, by rw [List.length_drop]; omega⟩⟩
    refine ⟨aq, cap - k, ?_, ?_, by rw [List.length_drop]; omega, by omega, fun hpos a ha => by obtain ⟨a0, h0, h1⟩ := HMap.out a ha; rw [← h1]; exact HN.out (by rw [List.length_drop] at hpos; omega) a0 h0⟩
    · have := HB.out.set 0 (.slice aq (bs.length - k) (cap - k)); rw [List.length_drop]; exact this
    · exact Row.on HRd.out (fun hpos a ha => by obtain ⟨a0, h0, h1⟩ := HMap.out a ha; rw [← h1]; exact HN.out (by rw [List.length_drop] at hpos; omega) a0 h0) ((On.refl rb _).setCell 0 _)
  · have HP := mkH hp
    rw [h] at HC
    clear h hp
    go_enter Try.func89, Try.ntmps89
    go_wp2_with fail
    refine HC.mono ?_
    unfold ansT
    rintro e w1 ⟨rfl, rfl⟩
    clear HC
    have HON := mkH (On.refl rb w1)
    go_wp2_with fail
    refine (stopAt_bad _ er her).mono ?_
    rintro e w2 ⟨rfl, rfl⟩
    unfold stopE
    go_wp2
    exact ⟨rfl, HON.out, .inr ⟨er, HP.out, her, rfl⟩⟩

set_option maxHeartbeats 2000000 in
theorem partD_any (w : World) (rb : Nat) (bs : Bs) (hst : Rst w rb bs) (hlen : bs.length ≤ 1000000000) :
    Calls Try.prog 91 #[.pointer (some ⟨rb, 0, none⟩), .func (Fn.func 92) #[] #[]] w fun e w' => Got rb w (pData bs) (VD w.heap.size) e w' := by
  obtain ⟨ao, cap, hB, hr, hcap, hc63, hn⟩ := hst
  have hc0 : w.cell? ⟨rb, 0, none⟩ = some (.slice ao bs.length cap) := hB.cell 0
  have hz0 := hB.frozen 0
  have HC := readTexts_any w ao cap bs hr hlen hcap hc63
  have HR := mkH hr
  have HB := mkH hB
  have HN := mkH hn
  have hlt := hB.lt
  clear hr hB hn
  rcases pData_cases bs with ⟨n, k, h, hs, hk, hp⟩ | ⟨er, l, k, her, h, hp⟩
  · have HP := mkH hp
    rw [h] at HC
    have HRd := mkH (Row_drop HR.out (k := k) hcap)
    have HMap := mkH (slice_map ao k cap)
    obtain ⟨aq, haq⟩ : ∃ aq, (if cap = k then ao else Option.map (fun x => x.add k) ao) = aq := ⟨_, rfl⟩
    rw [haq] at HRd HMap
    clear h hp
    go_enter Try.func91, Try.ntmps91
    go_wp2_with fail
    refine HC.mono ?_
    unfold IsTexts
    rintro e w1 ⟨v1, rfl, hown, hb⟩
    clear HC
    have hc1 : w1.cell? ⟨rb, 0, none⟩ = some (.slice ao bs.length cap) := (HB.out.below hb hlt).cell 0
    have hz1 := (HB.out.below hb hlt).frozen 0
    obtain ⟨ad, cd, rfl⟩ := own_form hown
    have HT := mkH (At.RowT.own hown).2.2
    have HF := mkH (Wb.own_lt hown)
    have HBb := mkH hb
    have HON := mkH (On.ofBelow (b := rb) hb)
    have HB1 := mkH (HB.out.below hb hlt)
    clear hown hb hc0 hz0
    go_wp2_with fail
    refine (stopAt_ok _).mono ?_
    rintro e w2 ⟨rfl, rfl⟩
    go_wp2
    go_ret
    refine ⟨HON.out.setCell 0 _, .inl ⟨n, bs.drop k, _, HP.out, rfl, ⟨ad, cd, rfl, Wk.RowT.setCell HT.out (fun a ha => by have := HF.out a ha; simp; omega) _, HF.out, hs⟩, ?_, by rw [List.length_drop]; omega⟩⟩
    refine ⟨aq, cap - k, ?_, ?_, by rw [List.length_drop]; omega, by omega, fun hpos a ha => by obtain ⟨a0, h0, h1⟩ := HMap.out a ha; rw [← h1]; exact HN.out (by rw [List.length_drop] at hpos; omega) a0 h0⟩
    · have := HB1.out.set 0 (.slice aq (bs.length - k) (cap - k)); rw [List.length_drop]; exact this
    · exact Row.on HRd.out (fun hpos a ha => by obtain ⟨a0, h0, h1⟩ := HMap.out a ha; rw [← h1]; exact HN.out (by rw [List.length_drop] at hpos; omega) a0 h0) (HON.out.setCell 0 _)
  · have HP := mkH hp
    rw [h] at HC
    clear h hp
    go_enter Try.func91, Try.ntmps91
    go_wp2_with fail
    refine HC.mono ?_
    unfold IsTexts
    rintro e w1 ⟨v1, rfl, hown, hb⟩
    clear HC
    have HON := mkH (On.ofBelow (b := rb) hb)
    clear hown hb
    go_wp2_with fail
    refine (stopAt_bad _ er her).mono ?_
    rintro e w2 ⟨rfl, rfl⟩
    unfold stopE
    go_wp2
    exact ⟨rfl, HON.out, .inr ⟨er, HP.out, her, rfl⟩⟩

theorem num_any (w : World) (rb : Nat) (bs : Bs) (hst : Rst w rb bs) (hlen : bs.length ≤ 1000000000) :
    Calls Try.prog 66 #[.pointer (some ⟨rb, 0, none⟩)] w fun e w' => Got rb w (pNum bs) VI e w' := by
  have H := partI_any w rb bs hst hlen
  clear hst
  go_enter Try.func66, Try.ntmps66
  go_wp2_with fail
  refine H.mono ?_
  rintro e w1 ⟨ho, ⟨x, rest, v, hp, rfl, hv⟩ | ⟨er, hp, her, rfl⟩⟩
  · have HV := mkH hv
    have HO := mkH ho
    have HP := mkH hp
    clear H hv ho hp
    go_wp2
    go_ret
    exact ⟨HO.out, .inl ⟨x, rest, _, HP.out, rfl, HV.out⟩⟩
  · have HO := mkH ho
    have HP := mkH hp
    clear H ho hp
    unfold stopE
    go_wp2
    exact ⟨rfl, HO.out, .inr ⟨er, HP.out, her, rfl⟩⟩

theorem text_any (w : World) (rb : Nat) (bs : Bs) (hst : Rst w rb bs) (hlen : bs.length ≤ 1000000000) :
    Calls Try.prog 67 #[.pointer (some ⟨rb, 0, none⟩)] w fun e w' => Got rb w (pText bs) VT e w' := by
  have H := partT_any w rb bs hst hlen
  clear hst
  go_enter Try.func67, Try.ntmps67
  go_wp2_with fail
  refine H.mono ?_
  rintro e w1 ⟨ho, ⟨x, rest, v, hp, rfl, hv⟩ | ⟨er, hp, her, rfl⟩⟩
  · have HV := mkH hv
    have HO := mkH ho
    have HP := mkH hp
    clear H hv ho hp
    go_wp2
    go_ret
    exact ⟨HO.out, .inl ⟨x, rest, _, HP.out, rfl, HV.out⟩⟩
  · have HO := mkH ho
    have HP := mkH hp
    clear H ho hp
    unfold stopE
    go_wp2
    exact ⟨rfl, HO.out, .inr ⟨er, HP.out, her, rfl⟩⟩

theorem data_any (w : World) (rb : Nat) (bs : Bs) (hst : Rst w rb bs) (hlen : bs.length ≤ 1000000000) :
    Calls Try.prog 70 #[.pointer (some ⟨rb, 0, none⟩)] w fun e w' => Got rb w (pData bs) (VD w.heap.size) e w' := by
  have H := partD_any w rb bs hst hlen
  clear hst
  go_enter Try.func70, Try.ntmps70
  go_wp2_with fail
  refine H.mono ?_
  rintro e w1 ⟨ho, ⟨x, rest, v, hp, rfl, hv⟩ | ⟨er, hp, her, rfl⟩⟩
  · have HV := mkH hv
    have HO := mkH ho
    have HP := mkH hp
    clear H hv ho hp
    go_wp2
    go_ret
    exact ⟨HO.out, .inl ⟨x, rest, _, HP.out, rfl, HV.out⟩⟩
  · have HO := mkH ho
    have HP := mkH hp
    clear H ho hp
    unfold stopE
    go_wp2
    exact ⟨rfl, HO.out, .inr ⟨er, HP.out, her, rfl⟩⟩

set_option maxHeartbeats 400000 in
theorem end_any (w : World) (rb : Nat) (bs : Bs) (hst : Rst w rb bs) (hlen : bs.length ≤ 1000000000) :
    Calls Try.prog 64 #[.pointer (some ⟨rb, 0, none⟩)] w fun e w' => w' = w ∧ ((bs.length = 0 ∧ e = .returned (.tuple #[])) ∨ (0 < bs.length ∧ e = stopE 5)) := by
  obtain ⟨ao, cap, hB, hr, hcap, hc63, hn⟩ := hst
  have hc0 : w.cell? ⟨rb, 0, none⟩ = some (.slice ao bs.length cap) := hB.cell 0
  clear hr hB hn
  by_cases h : bs.length = 0
  · rw [h] at hc0
    have HE := mkH h
    clear h hcap
    go_enter Try.func64, Try.ntmps64
    go_wp2
    go_end0
    exact ⟨rfl, .inl ⟨HE.out, rfl⟩⟩
  · have c1 : (0 : Int) < (bs.length : Int) := by omega
    have c2 : 0 < bs.length := by omega
    clear h
    go_enter Try.func64, Try.ntmps64
    go_wp2_with fail
    refine (stopAt_bad w 5 (by omega)).mono ?_
    rintro e w2 ⟨rfl, rfl⟩
    unfold stopE
    go_wp2
    exact ⟨rfl, rfl, .inr ⟨c2, rfl⟩⟩
end Go.Proofs.Ytjboldahmndkeaa.Wq
