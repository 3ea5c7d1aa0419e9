/-
  Laws that serve the walks of disk: what turns in memory and what stays; bytes that a disk owns; a struct of four cells. Nothing of the program.
-/
import Derived.Test.YtenkgpfeifflnaaGreatRows
import Derived.Test.YtenkgpfeifflnaaGreatDiP
import Derived.Test.YtenkgpfeifflnaaGreatKit2
import Derived.Deep.WholeRow
import Derived.Deep.OwnRows
import Derived.Lib.SliceRun
import Derived.Deep.RegionHeld3
import Derived.Deep.RegionLaw
import Derived.Deep.QuietTactic
import Derived.BigQuiet
import Derived.Lib.SlBytesConst
namespace Go.Proofs.YtenkgpfeifflnaaGreat.Dk
open Go.RowKit Kt
set_option linter.unusedVariables false
set_option linter.unusedSectionVars false
set_option linter.unusedSimpArgs false

/-- Of the old blocks only those of F have turned. -/
structure Fr (F : Nat → Prop) (w w' : World) : Prop where
  os : w'.os = w.os
  tape : w'.tape = w.tape
  output : w'.output = w.output
  size : w.heap.size ≤ w'.heap.size
  block : ∀ k, k < w.heap.size → ¬ F k → w'.heap[k]? = w.heap[k]?
theorem Fr.refl (F : Nat → Prop) (w : World) : Fr F w w := ⟨rfl, rfl, rfl, Nat.le_refl _, fun _ _ _ => rfl⟩
theorem Fr.ofBelow {F : Nat → Prop} {w w' : World} (h : Below w.heap.size w w') : Fr F w w' := ⟨h.os, h.tape, h.output, h.size, fun k hk _ => h.block k hk⟩
theorem Fr.mono {F G : Nat → Prop} {w w' : World} (h : Fr F w w') (hi : ∀ k, F k → G k) : Fr G w w' := ⟨h.os, h.tape, h.output, h.size, fun k hk hn => h.block k hk (fun hf => hn (hi k hf))⟩
/-- .. and what is new since w may turn as well. -/
theorem Fr.trans {F G : Nat → Prop} {w w1 w2 : World} (h : Fr F w w1) (k : Fr G w1 w2) (hg : ∀ i, G i → F i ∨ w.heap.size ≤ i) : Fr F w w2 :=
  ⟨k.os.trans h.os, k.tape.trans h.tape, k.output.trans h.output, Nat.le_trans h.size k.size, fun i hi hn =>
    (k.block i (Nat.lt_of_lt_of_le hi h.size) (fun hgi => by rcases hg i hgi with x | x; exact hn x; omega)).trans (h.block i hi hn)⟩
theorem Fr.alloc {F : Nat → Prop} {w w' : World} (h : Fr F w w') (o : Obj) : Fr F w (w'.alloc o) :=
  ⟨h.os, h.tape, h.output, by simp; have := h.size; omega, fun k hk hn => (Below.heap_alloc w' o k (Nat.lt_of_lt_of_le hk h.size)).trans (h.block k hk hn)⟩
theorem Fr.drewN {F : Nat → Prop} {w w' : World} (h : Fr F w w') (n : Nat) : Fr F w (w'.drewN n) := ⟨h.os, h.tape, h.output, h.size, h.block⟩
theorem Fr.setRow {F : Nat → Prop} {w w' : World} (h : Fr F w w') {b : Nat} (hb : F b ∨ w.heap.size ≤ b) (cs : Array Value) : Fr F w (w'.setRow b cs) :=
  ⟨h.os, h.tape, h.output, by rw [setRow_size]; exact h.size, fun k hk hn => (setRow_other w' b k cs (by rintro rfl; rcases hb with x | x; exact hn x; omega)).trans (h.block k hk hn)⟩
theorem Fr.below {F : Nat → Prop} {B : Nat} {w w' : World} (h : Fr F w w') (hF : ∀ k, F k → B ≤ k) (hs : B ≤ w.heap.size) : Below B w w' :=
  ⟨h.os, h.tape, h.output, h.size, fun k hk => h.block k (by omega) (fun hf => by have := hF k hf; omega)⟩
theorem Fr.heap {F : Nat → Prop} {w w' : World} (h : Fr F w w') {k : Nat} (hk : k < w.heap.size) (hn : ¬ F k) : w'.heap[k]? = w.heap[k]? := h.block k hk hn

theorem block_lt {w : World} {b : Nat} {o : Obj} (h : w.heap[b]? = some o) : b < w.heap.size := (Array.getElem?_eq_some_iff.1 h).1
theorem below_drewN {B : Nat} {a w : World} (h : Below B a w) (n : Nat) : Below B a (w.drewN n) := ⟨h.os, h.tape, h.output, h.size, h.block⟩

/-- What a footprint becomes. -/
def Nx (F : Nat → Prop) (w w' : World) (F' : Nat → Prop) : Prop := Fr F w w' ∧ ∀ k, F' k → F k ∨ w.heap.size ≤ k
theorem Nx.refl (F : Nat → Prop) (w : World) : Nx F w w F := ⟨Fr.refl F w, fun _ h => .inl h⟩
theorem Nx.ofBelow {F : Nat → Prop} {w w' : World} (h : Below w.heap.size w w') : Nx F w w' F := ⟨Fr.ofBelow h, fun _ h => .inl h⟩
theorem Nx.trans {F F' F'' : Nat → Prop} {w w1 w2 : World} (h : Nx F w w1 F') (k : Nx F' w1 w2 F'') : Nx F w w2 F'' :=
  ⟨h.1.trans k.1 h.2, fun i hi => by
    rcases k.2 i hi with x | x
    · exact h.2 i x
    · exact .inr (Nat.le_trans h.1.size x)⟩
theorem Nx.base {F F' : Nat → Prop} {B : Nat} {w w' : World} (h : Nx F w w' F') (hF : ∀ k, F k → B ≤ k) (hs : B ≤ w.heap.size) : ∀ k, F' k → B ≤ k := fun k hk => by
  rcases h.2 k hk with x | x
  · exact hF k x
  · omega
theorem Nx.below {F F' : Nat → Prop} {B : Nat} {w w' : World} (h : Nx F w w' F') (hF : ∀ k, F k → B ≤ k) (hs : B ≤ w.heap.size) : Below B w w' := h.1.below hF hs
theorem Nx.size {F F' : Nat → Prop} {w w' : World} (h : Nx F w w' F') : w.heap.size ≤ w'.heap.size := h.1.size
/-- Two footprints that do not meet. -/
theorem Nx.apart {F F' G : Nat → Prop} {w w' : World} (h : Nx F w w' F') (hG : ∀ k, G k → k < w.heap.size) (hd : ∀ k, F k → ¬ G k) : ∀ k, F' k → ¬ G k := fun k hk hg => by
  rcases h.2 k hk with x | x
  · exact hd k x hg
  · have := hG k hg; omega

/-- Bytes that lie at a block's beginning, in memory of F but not in block D; the slice may end ahead of the block. -/
def Ow (w : World) (F : Nat → Prop) (D : Nat) (e : TypeId) (v : Value) (bs : List UInt8) : Prop :=
  (v = .slice none 0 0 ∧ bs = []) ∨
  ∃ g cap cur, v = .slice (some ⟨g, 0, none⟩) bs.length cap ∧ F g ∧ g ≠ D ∧ w.heap[g]? = some (.cells cur e (0, 0)) ∧ bs.length ≤ cap ∧ cap ≤ cur.size ∧ cap ≤ maxLen ∧ cur.toList.take bs.length = U bs
theorem Ow.form {w : World} {F : Nat → Prop} {D e : Nat} {v : Value} {bs : List UInt8} (h : Ow w F D e v bs) : ∃ ao cap, v = .slice ao bs.length cap ∧ bs.length ≤ cap ∧ cap ≤ 9223372036854775807 ∧ Row w ao bs ∧ (ao = none ∨ ∃ g, ao = some ⟨g, 0, none⟩) := by
  rcases h with ⟨rfl, rfl⟩ | ⟨g, cap, cur, rfl, hF, hD, hg, hl, hc, hm, ht⟩
  · exact ⟨none, 0, rfl, Nat.le_refl _, by omega, Row.nil _ _, .inl rfl⟩
  · refine ⟨_, cap, rfl, hl, by unfold maxLen at hm; omega, fun h0 => ⟨g, 0, rfl, fun i hi => ?_⟩, (.inr ⟨g, rfl⟩ : _ ∨ _)⟩
    rw [cell_of_row _ _ _ _ _ _ hg, Nat.zero_add]
    have h1 : (cur.toList.take bs.length)[i]? = (U bs)[i]? := by rw [ht]
    rw [List.getElem?_take, if_pos hi, U_at bs i hi] at h1
    simpa using h1
theorem Ow.kept {w w' : World} {F : Nat → Prop} {D e : Nat} {v : Value} {bs : List UInt8} (h : Ow w F D e v bs) (hk : ∀ k, F k → k ≠ D → w'.heap[k]? = w.heap[k]?) : Ow w' F D e v bs := by
  rcases h with h | ⟨g, cap, cur, h1, hF, hD, hg, hx⟩
  · exact .inl h
  · exact .inr ⟨g, cap, cur, h1, hF, hD, by rw [hk g hF hD]; exact hg, hx⟩
theorem Ow.mono {w : World} {F G : Nat → Prop} {D e : Nat} {v : Value} {bs : List UInt8} (h : Ow w F D e v bs) (hi : ∀ k, F k → G k) : Ow w G D e v bs := by
  rcases h with h | ⟨g, cap, cur, h1, hF, hx⟩
  · exact .inl h
  · exact .inr ⟨g, cap, cur, h1, hi g hF, hx⟩
theorem Ow.take {w : World} {F : Nat → Prop} {D e : Nat} {ao : Option Addr} {n cap : Nat} {bs : List UInt8} (h : Ow w F D e (.slice ao n cap) bs) (m : Nat) (hm : m ≤ bs.length) : Ow w F D e (.slice ao m m) (bs.take m) := by
  rcases h with ⟨h1, rfl⟩ | ⟨g, c, cur, h1, hF, hD, hg, hl, hc, hmx, ht⟩
  · simp only [Value.slice.injEq] at h1
    obtain ⟨rfl, rfl, rfl⟩ := h1
    have : m = 0 := by simpa using hm
    subst this
    exact .inl ⟨rfl, by simp⟩
  · simp only [Value.slice.injEq] at h1
    obtain ⟨rfl, rfl, rfl⟩ := h1
    have hl2 : (bs.take m).length = m := by rw [List.length_take]; omega
    refine .inr ⟨g, m, cur, by rw [hl2], hF, hD, hg, by omega, by omega, by unfold maxLen at *; omega, ?_⟩
    rw [hl2]
    have h1 : (cur.toList.take bs.length).take m = (U bs).take m := by rw [ht]
    rw [List.take_take, Nat.min_eq_left hm] at h1
    rw [h1]
    simp [U]
theorem Ow.ofOwn {w : World} {F : Nat → Prop} {D e base n : Nat} {v : Value} {bs : List UInt8} (h : w.ownsRow base e 1 v n (U bs)) (hF : ∀ g, base ≤ g → g < w.heap.size → F g ∧ g ≠ D) : Ow w F D e v bs := by
  have hn : n = bs.length := by have := h.1; rw [U_length] at this; omega
  subst hn
  rcases h.2 with ⟨rfl, h0⟩ | ⟨g, cap, cur, rfl, hb, hg, hl, hm, hs, ht⟩
  · exact .inl ⟨rfl, List.eq_nil_of_length_eq_zero h0⟩
  · obtain ⟨f1, f2⟩ := hF g hb (block_lt hg)
    exact .inr ⟨g, cap, cur, rfl, f1, f2, hg, hl, by omega, hm, by simpa using ht⟩

section
variable {P : Program} (w : World)
/-- 'append(v, x...)' onto such bytes: in place, or into a new block. -/
theorem run_append_ow (F : Nat → Prop) (D : Nat) (t tx ty e : TypeId) (z : Value) (ht : P.underlying t = some (.slice e)) (hinfo : (P.info? e).map (fun i => (i.zero, i.size, i.bytes)) = some (some z, 1, 1)) (hzs : z.cells.size = 1)
    (v : Value) (bs : List UInt8) (hown : Ow w F D e v bs) (x : Value) (news : List UInt8) (hs : Src P 1 tx x news.length (U news) w) (hlen : bs.length + news.length ≤ 4194304) (hD : D < w.heap.size) :
    ∃ v' w', (Builtin.append_ #[t, tx] ty #[v, x]).run P w = .ok v' w' ∧ Fr (fun k => F k ∧ k ≠ D) w w' ∧ Ow w' (fun k => F k ∨ (w.heap.size ≤ k ∧ k < w'.heap.size)) D e v' (bs ++ news) := by
  obtain ⟨i, hi, hz, hsize, hby⟩ := info_parts hinfo
  have hln : (U news).length = news.length := U_length _
  have grown : ∀ (old : Nat), old < bs.length + news.length →
      Ow (w.drew.alloc (.cells ((U (bs ++ news)).toArray ++ Builtin.zeroCells z.cells (grownCap w (bs.length + news.length) old e - (bs.length + news.length))) e)) (fun k => F k ∨ (w.heap.size ≤ k ∧ k < (w.drew.alloc (.cells ((U (bs ++ news)).toArray ++ Builtin.zeroCells z.cells (grownCap w (bs.length + news.length) old e - (bs.length + news.length))) e)).heap.size)) D e
        (.slice (some ⟨w.heap.size, 0, none⟩) (bs.length + news.length) (grownCap w (bs.length + news.length) old e)) (bs ++ news) := by
    intro old ho
    have hge := grownCap_ge w (bs.length + news.length) old e
    have hcm : grownCap w (bs.length + news.length) old e ≤ maxLen := grownCap_le_maxLen w (bs.length + news.length) old e (by unfold maxLen; omega)
    refine .inr ⟨w.heap.size, grownCap w (bs.length + news.length) old e, _, by rw [List.length_append], .inr ⟨Nat.le_refl _, by simp⟩, by omega, heap_alloc_new w.drew _, by rw [List.length_append]; exact hge, ?_, hcm, ?_⟩
    · simp only [Array.size_append, List.size_toArray, size_zeroCells, hzs, U_length, List.length_append]
      omega
    · rw [Array.toList_append, ← U_length (bs ++ news)]
      exact List.take_left
  rcases hown with ⟨rfl, rfl⟩ | ⟨g, cap, cur, rfl, hF, hgD, hg, hnc, hcs, hcm, htake⟩
  · by_cases hm : news.length = 0
    · have hn : news = [] := List.eq_nil_of_length_eq_zero hm
      subst hn
      refine ⟨.slice none 0 0, w, ?_, Fr.refl _ _, .inl ⟨rfl, rfl⟩⟩
      have hl := hs.len
      have hc := hs.cells
      have hU : U [] = [] := rfl
      rw [hU, List.length_nil, ← hsize] at hc
      rw [List.length_nil] at hl
      rcases hs.kind with ⟨e', hk⟩ | hk <;> simp [Builtin.append_, run_underlying ht, run_underlying hk, sizeOf, typeInfo, hi, hl, hc]
    · have hr := run_append_grow_src (P := P) w t tx ty e i z ht hi hz none 0 0 [] (run_firstCells_none w.drew i.size 0 0 0) x news.length (U news) (by rw [hsize]; exact hs) (by omega) (by omega) (growslice_fits (by omega) (by rw [hby]; omega))
      have hgr := grown 0 (by simp; omega)
      simp only [Nat.zero_add, List.nil_append, List.length_nil] at hgr hr ⊢
      exact ⟨_, _, hr, (Fr.refl _ _).alloc _ |> fun h => ⟨h.os, h.tape, h.output, h.size, h.block⟩, hgr⟩
  · by_cases hroom : bs.length + news.length ≤ cap
    · have hfit : bs.length + (U news).length ≤ cur.size := by rw [hln]; omega
      have hst := run_storeCells_at P g bs.length e (U news) 0 cur w hg (by simpa using hfit) hs.one
      simp only [Nat.add_zero] at hst
      have hr : (Builtin.append_ #[t, tx] ty #[.slice (some ⟨g, 0, none⟩) bs.length cap, x]).run P w =
          .ok (.slice (some ⟨g, 0, none⟩) (bs.length + news.length) cap) (w.setRow g (cur.toList.take bs.length ++ U news ++ cur.toList.drop (bs.length + (U news).length)).toArray) := by
        have hl := hs.len
        have hc := hs.cells
        rcases hs.kind with ⟨e', hk⟩ | hk <;> simp [Builtin.append_, run_underlying ht, run_underlying hk, sizeOf, typeInfo, hi, hsize, hl, hroom, hc, Addr.add_lit, hst]
      refine ⟨_, _, hr, (Fr.refl _ _).setRow (.inl ⟨hF, hgD⟩) _, .inr ⟨g, cap, _, by rw [List.length_append], .inl hF, hgD, setRow_heap w g cur _ e _ hg, by rw [List.length_append]; exact hroom, ?_, hcm, ?_⟩⟩
      · simp only [List.size_toArray, List.length_append, List.length_take, List.length_drop, Array.length_toList, U_length]
        omega
      · rw [htake, ← U_append, ← U_length (bs ++ news)]
        exact List.take_left
    · have holds : ∀ j u, (U bs)[j]? = some u → w.cell? ((⟨g, 0, none⟩ : Addr).add j) = some u := by
        intro j u hj
        have hjl : j < bs.length := by have := (U_get bs j u hj).1; exact this
        rw [Addr.add_lit, cell_of_row _ _ _ _ _ _ hg, Nat.zero_add]
        have h1 : (cur.toList.take bs.length)[j]? = (U bs)[j]? := by rw [htake]
        rw [List.getElem?_take, if_pos hjl, hj] at h1
        simpa using h1
      have hold := run_firstCells_some (P := P) w.drew i.size bs.length ⟨g, 0, none⟩ bs.length cap (U bs) (by rw [hsize, U_length]; omega) (by simpa using holds)
      have hr := run_append_grow_src (P := P) w t tx ty e i z ht hi hz (some ⟨g, 0, none⟩) bs.length cap (U bs) hold x news.length (U news) (by rw [hsize]; exact hs) (by omega) (by omega) (growslice_fits (by omega) (by rw [hby]; omega))
      rw [← U_append] at hr
      have hgr := grown cap (by omega)
      exact ⟨_, _, hr, (Fr.refl _ _).alloc _ |> fun h => ⟨h.os, h.tape, h.output, h.size, h.block⟩, hgr⟩
end
end Go.Proofs.YtenkgpfeifflnaaGreat.Dk
