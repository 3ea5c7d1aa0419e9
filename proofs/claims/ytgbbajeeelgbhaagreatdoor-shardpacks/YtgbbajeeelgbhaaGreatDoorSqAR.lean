/-
  DiK SeM, joined by mrg.py.
-/
import Derived.Test.YtgbbajeeelgbhaaGreatDoorSqPO
import Derived.Test.YtgbbajeeelgbhaaGreatDoorSqAP
import Derived.Laws.BitsAllLaws
import Derived.Laws.ShiftsVarLaws
import Derived.Test.YtgbbajeeelgbhaaGreatDoorRows
import Derived.Test.YtgbbajeeelgbhaaGreatDoorSqAK
import Derived.Test.YtgbbajeeelgbhaaGreatDoorSqAA
import Derived.Deep.WholeRow
import Derived.Deep.OwnRows
import Derived.Lib.SliceRun
import Derived.Deep.RegionHeld3
import Derived.Deep.RegionLaw
import Derived.Deep.QuietTactic
import Derived.BigQuiet
import Derived.Lib.SlBytesConst
import Derived.Maps.RangeWalk
import Derived.Maps.Ext

namespace Go.Proofs.YtgbbajeeelgbhaaGreatDoor.Dk
open Go.RowKit Kt
set_option linter.unusedVariables false
set_option linter.unusedSectionVars false
set_option linter.unusedSimpArgs false

/-- Of the old blocks only those of F have turned. -/
structure Fr (F : Nat → Prop) (w w' : World) : Prop where
  os : w'.os = w.os
  tape : w'.tape = w.tape
  output : w'.output = w.output
  size : w.heap.size ≤ w'.heap.size
  block : ∀ k, k < w.heap.size → ¬ F k → w'.heap[k]? = w.heap[k]?
theorem Fr.refl (F : Nat → Prop) (w : World) : Fr F w w := ⟨rfl, rfl, rfl, Nat.le_refl _, fun _ _ _ => rfl⟩
theorem Fr.ofBelow {F : Nat → Prop} {w w' : World} (h : Below w.heap.size w w') : Fr F w w' := ⟨h.os, h.tape, h.output, h.size, fun k hk _ => h.block k hk⟩
theorem Fr.mono {F G : Nat → Prop} {w w' : World} (h : Fr F w w') (hi : ∀ k, F k → G k) : Fr G w w' := ⟨h.os, h.tape, h.output, h.size, fun k hk hn => h.block k hk (fun hf => hn (hi k hf))⟩
/-- .. and what is new since w may turn as well. -/
theorem Fr.trans {F G : Nat → Prop} {w w1 w2 : World} (h : Fr F w w1) (k : Fr G w1 w2) (hg : ∀ i, G i → F i ∨ w.heap.size ≤ i) : Fr F w w2 :=
  ⟨k.os.trans h.os, k.tape.trans h.tape, k.output.trans h.output, Nat.le_trans h.size k.size, fun i hi hn =>
    (k.block i (Nat.lt_of_lt_of_le hi h.size) (fun hgi => by rcases hg i hgi with x | x; exact hn x; omega)).trans (h.block i hi hn)⟩
theorem Fr.alloc {F : Nat → Prop} {w w' : World} (h : Fr F w w') (o : Obj) : Fr F w (w'.alloc o) :=
  ⟨h.os, h.tape, h.output, by simp; have := h.size; omega, fun k hk hn => (Below.heap_alloc w' o k (Nat.lt_of_lt_of_le hk h.size)).trans (h.block k hk hn)⟩
theorem Fr.drewN {F : Nat → Prop} {w w' : World} (h : Fr F w w') (n : Nat) : Fr F w (w'.drewN n) := ⟨h.os, h.tape, h.output, h.size, h.block⟩
theorem Fr.setRow {F : Nat → Prop} {w w' : World} (h : Fr F w w') {b : Nat} (hb : F b ∨ w.heap.size ≤ b) (cs : Array Value) : Fr F w (w'.setRow b cs) :=
  ⟨h.os, h.tape, h.output, by rw [setRow_size]; exact h.size, fun k hk hn => (setRow_other w' b k cs (by rintro rfl; rcases hb with x | x; exact hn x; omega)).trans (h.block k hk hn)⟩
theorem Fr.below {F : Nat → Prop} {B : Nat} {w w' : World} (h : Fr F w w') (hF : ∀ k, F k → B ≤ k) (hs : B ≤ w.heap.size) : Below B w w' :=
  ⟨h.os, h.tape, h.output, h.size, fun k hk => h.block k (by omega) (fun hf => by have := hF k hf; omega)⟩
theorem Fr.heap {F : Nat → Prop} {w w' : World} (h : Fr F w w') {k : Nat} (hk : k < w.heap.size) (hn : ¬ F k) : w'.heap[k]? = w.heap[k]? := h.block k hk hn


/-- What a footprint becomes. -/
def Nx (F : Nat → Prop) (w w' : World) (F' : Nat → Prop) : Prop := Fr F w w' ∧ ∀ k, F' k → F k ∨ w.heap.size ≤ k
theorem Nx.refl (F : Nat → Prop) (w : World) : Nx F w w F := ⟨Fr.refl F w, fun _ h => .inl h⟩
theorem Nx.ofBelow {F : Nat → Prop} {w w' : World} (h : Below w.heap.size w w') : Nx F w w' F := ⟨Fr.ofBelow h, fun _ h => .inl h⟩
theorem Nx.trans {F F' F'' : Nat → Prop} {w w1 w2 : World} (h : Nx F w w1 F') (k : Nx F' w1 w2 F'') : Nx F w w2 F'' :=
  ⟨h.1.trans k.1 h.2, fun i hi => by
    rcases k.2 i hi with x | x
    · exact h.2 i x
    · exact .inr (Nat.le_trans h.1.size x)⟩
theorem Nx.base {F F' : Nat → Prop} {B : Nat} {w w' : World} (h : Nx F w w' F') (hF : ∀ k, F k → B ≤ k) (hs : B ≤ w.heap.size) : ∀ k, F' k → B ≤ k := fun k hk => by
  rcases h.2 k hk with x | x
  · exact hF k x
  · omega
theorem Nx.below {F F' : Nat → Prop} {B : Nat} {w w' : World} (h : Nx F w w' F') (hF : ∀ k, F k → B ≤ k) (hs : B ≤ w.heap.size) : Below B w w' := h.1.below hF hs
theorem Nx.size {F F' : Nat → Prop} {w w' : World} (h : Nx F w w' F') : w.heap.size ≤ w'.heap.size := h.1.size
/-- Two footprints that do not meet. -/
theorem Nx.apart {F F' G : Nat → Prop} {w w' : World} (h : Nx F w w' F') (hG : ∀ k, G k → k < w.heap.size) (hd : ∀ k, F k → ¬ G k) : ∀ k, F' k → ¬ G k := fun k hk hg => by
  rcases h.2 k hk with x | x
  · exact hd k x hg
  · have := hG k hg; omega

/-- Bytes that lie at a block's beginning, in memory of F but not in block D; the slice may end ahead of the block. -/
def Ow (w : World) (F : Nat → Prop) (D : Nat) (e : TypeId) (v : Value) (bs : List UInt8) : Prop :=
  (v = .slice none 0 0 ∧ bs = []) ∨
  ∃ g cap cur, v = .slice (some ⟨g, 0, none⟩) bs.length cap ∧ F g ∧ g ≠ D ∧ w.heap[g]? = some (.cells cur e (0, 0)) ∧ bs.length ≤ cap ∧ cap ≤ cur.size ∧ cap ≤ maxLen ∧ cur.toList.take bs.length = U bs
theorem Ow.form {w : World} {F : Nat → Prop} {D e : Nat} {v : Value} {bs : List UInt8} (h : Ow w F D e v bs) : ∃ ao cap, v = .slice ao bs.length cap ∧ bs.length ≤ cap ∧ cap ≤ 9223372036854775807 ∧ Row w ao bs ∧ (ao = none ∨ ∃ g, ao = some ⟨g, 0, none⟩) := by
  rcases h with ⟨rfl, rfl⟩ | ⟨g, cap, cur, rfl, hF, hD, hg, hl, hc, hm, ht⟩
  · exact ⟨none, 0, rfl, Nat.le_refl _, by omega, Row.nil _ _, .inl rfl⟩
  · refine ⟨_, cap, rfl, hl, by unfold maxLen at hm; omega, fun h0 => ⟨g, 0, rfl, fun i hi => ?_⟩, (.inr ⟨g, rfl⟩ : _ ∨ _)⟩
    rw [cell_of_row _ _ _ _ _ _ hg, Nat.zero_add]
    have h1 : (cur.toList.take bs.length)[i]? = (U bs)[i]? := by rw [ht]
    rw [List.getElem?_take, if_pos hi, U_at bs i hi] at h1
    simpa using h1
theorem Ow.kept {w w' : World} {F : Nat → Prop} {D e : Nat} {v : Value} {bs : List UInt8} (h : Ow w F D e v bs) (hk : ∀ k, F k → k ≠ D → w'.heap[k]? = w.heap[k]?) : Ow w' F D e v bs := by
  rcases h with h | ⟨g, cap, cur, h1, hF, hD, hg, hx⟩
  · exact .inl h
  · exact .inr ⟨g, cap, cur, h1, hF, hD, by rw [hk g hF hD]; exact hg, hx⟩
theorem Ow.mono {w : World} {F G : Nat → Prop} {D e : Nat} {v : Value} {bs : List UInt8} (h : Ow w F D e v bs) (hi : ∀ k, F k → G k) : Ow w G D e v bs := by
  rcases h with h | ⟨g, cap, cur, h1, hF, hx⟩
  · exact .inl h
  · exact .inr ⟨g, cap, cur, h1, hi g hF, hx⟩
theorem Ow.take {w : World} {F : Nat → Prop} {D e : Nat} {ao : Option Addr} {n cap : Nat} {bs : List UInt8} (h : Ow w F D e (.slice ao n cap) bs) (m : Nat) (hm : m ≤ bs.length) : Ow w F D e (.slice ao m m) (bs.take m) := by
  rcases h with ⟨h1, rfl⟩ | ⟨g, c, cur, h1, hF, hD, hg, hl, hc, hmx, ht⟩
  · simp only [Value.slice.injEq] at h1
    obtain ⟨rfl, rfl, rfl⟩ := h1
    have : m = 0 := by simpa using hm
    subst this
    exact .inl ⟨rfl, by simp⟩
  · simp only [Value.slice.injEq] at h1
    obtain ⟨rfl, rfl, rfl⟩ := h1
    have hl2 : (bs.take m).length = m := by rw [List.length_take]; omega
    refine .inr ⟨g, m, cur, by rw [hl2], hF, hD, hg, by omega, by omega, by unfold maxLen at *; omega, ?_⟩
    rw [hl2]
    have h1 : (cur.toList.take bs.length).take m = (U bs).take m := by rw [ht]
    rw [List.take_take, Nat.min_eq_left hm] at h1
    rw [h1]
    simp [U]
theorem Ow.ofOwn {w : World} {F : Nat → Prop} {D e base n : Nat} {v : Value} {bs : List UInt8} (h : w.ownsRow base e 1 v n (U bs)) (hF : ∀ g, base ≤ g → g < w.heap.size → F g ∧ g ≠ D) : Ow w F D e v bs := by
  have hn : n = bs.length := by have := h.1; rw [U_length] at this; omega
  subst hn
  rcases h.2 with ⟨rfl, h0⟩ | ⟨g, cap, cur, rfl, hb, hg, hl, hm, hs, ht⟩
  · exact .inl ⟨rfl, List.eq_nil_of_length_eq_zero h0⟩
  · obtain ⟨f1, f2⟩ := hF g hb (block_lt hg)
    exact .inr ⟨g, cap, cur, rfl, f1, f2, hg, hl, by omega, hm, by simpa using ht⟩

section
variable {P : Program} (w : World)
/-- 'append(v, x...)' onto such bytes: in place, or into a new block. -/
theorem run_append_ow (F : Nat → Prop) (D : Nat) (t tx ty e : TypeId) (z : Value) (ht : P.underlying t = some (.slice e)) (hinfo : (P.info? e).map (fun i => (i.zero, i.size, i.bytes)) = some (some z, 1, 1)) (hzs : z.cells.size = 1)
    (v : Value) (bs : List UInt8) (hown : Ow w F D e v bs) (x : Value) (news : List UInt8) (hs : Src P 1 tx x news.length (U news) w) (hlen : bs.length + news.length ≤ 4194304) (hD : D < w.heap.size) :
    ∃ v' w', (Builtin.append_ #[t, tx] ty #[v, x]).run P w = .ok v' w' ∧ Fr (fun k => F k ∧ k ≠ D) w w' ∧ Ow w' (fun k => F k ∨ (w.heap.size ≤ k ∧ k < w'.heap.size)) D e v' (bs ++ news) := by
  obtain ⟨i, hi, hz, hsize, hby⟩ := info_parts hinfo
  have hln : (U news).length = news.length := U_length _
  have grown : ∀ (old : Nat), old < bs.length + news.length →
      Ow (w.drew.alloc (.cells ((U (bs ++ news)).toArray ++ Builtin.zeroCells z.cells (grownCap w (bs.length + news.length) old e - (bs.length + news.length))) e)) (fun k => F k ∨ (w.heap.size ≤ k ∧ k < (w.drew.alloc (.cells ((U (bs ++ news)).toArray ++ Builtin.zeroCells z.cells (grownCap w (bs.length + news.length) old e - (bs.length + news.length))) e)).heap.size)) D e
        (.slice (some ⟨w.heap.size, 0, none⟩) (bs.length + news.length) (grownCap w (bs.length + news.length) old e)) (bs ++ news) := by
    intro old ho
    have hge := grownCap_ge w (bs.length + news.length) old e
    have hcm : grownCap w (bs.length + news.length) old e ≤ maxLen := grownCap_le_maxLen w (bs.length + news.length) old e (by unfold maxLen; omega)
    refine .inr ⟨w.heap.size, grownCap w (bs.length + news.length) old e, _, by rw [List.length_append], .inr ⟨Nat.le_refl _, by simp⟩, by omega, heap_alloc_new w.drew _, by rw [List.length_append]; exact hge, ?_, hcm, ?_⟩
    · simp only [Array.size_append, List.size_toArray, size_zeroCells, hzs, U_length, List.length_append]
      omega
    · rw [Array.toList_append, ← U_length (bs ++ news)]
      exact List.take_left
  rcases hown with ⟨rfl, rfl⟩ | ⟨g, cap, cur, rfl, hF, hgD, hg, hnc, hcs, hcm, htake⟩
  · by_cases hm : news.length = 0
    · have hn : news = [] := List.eq_nil_of_length_eq_zero hm
      subst hn
      refine ⟨.slice none 0 0, w, ?_, Fr.refl _ _, .inl ⟨rfl, rfl⟩⟩
      have hl := hs.len
      have hc := hs.cells
      have hU : U [] = [] := rfl
      rw [hU, List.length_nil, ← hsize] at hc
      rw [List.length_nil] at hl
      rcases hs.kind with ⟨e', hk⟩ | hk <;> simp [Builtin.append_, run_underlying ht, run_underlying hk, sizeOf, typeInfo, hi, hl, hc]
    · have hr := run_append_grow_src (P := P) w t tx ty e i z ht hi hz none 0 0 [] (run_firstCells_none w.drew i.size 0 0 0) x news.length (U news) (by rw [hsize]; exact hs) (by omega) (by omega) (growslice_fits (by omega) (by rw [hby]; omega))
      have hgr := grown 0 (by simp; omega)
      simp only [Nat.zero_add, List.nil_append, List.length_nil] at hgr hr ⊢
      exact ⟨_, _, hr, (Fr.refl _ _).alloc _ |> fun h => ⟨h.os, h.tape, h.output, h.size, h.block⟩, hgr⟩
  · by_cases hroom : bs.length + news.length ≤ cap
    · have hfit : bs.length + (U news).length ≤ cur.size := by rw [hln]; omega
      have hst := run_storeCells_at P g bs.length e (U news) 0 cur w hg (by simpa using hfit) hs.one
      simp only [Nat.add_zero] at hst
      have hr : (Builtin.append_ #[t, tx] ty #[.slice (some ⟨g, 0, none⟩) bs.length cap, x]).run P w =
          .ok (.slice (some ⟨g, 0, none⟩) (bs.length + news.length) cap) (w.setRow g (cur.toList.take bs.length ++ U news ++ cur.toList.drop (bs.length + (U news).length)).toArray) := by
        have hl := hs.len
        have hc := hs.cells
        rcases hs.kind with ⟨e', hk⟩ | hk <;> simp [Builtin.append_, run_underlying ht, run_underlying hk, sizeOf, typeInfo, hi, hsize, hl, hroom, hc, Addr.add_lit, hst]
      refine ⟨_, _, hr, (Fr.refl _ _).setRow (.inl ⟨hF, hgD⟩) _, .inr ⟨g, cap, _, by rw [List.length_append], .inl hF, hgD, setRow_heap w g cur _ e _ hg, by rw [List.length_append]; exact hroom, ?_, hcm, ?_⟩⟩
      · simp only [List.size_toArray, List.length_append, List.length_take, List.length_drop, Array.length_toList, U_length]
        omega
      · rw [htake, ← U_append, ← U_length (bs ++ news)]
        exact List.take_left
    · have holds : ∀ j u, (U bs)[j]? = some u → w.cell? ((⟨g, 0, none⟩ : Addr).add j) = some u := by
        intro j u hj
        have hjl : j < bs.length := by have := (U_get bs j u hj).1; exact this
        rw [Addr.add_lit, cell_of_row _ _ _ _ _ _ hg, Nat.zero_add]
        have h1 : (cur.toList.take bs.length)[j]? = (U bs)[j]? := by rw [htake]
        rw [List.getElem?_take, if_pos hjl, hj] at h1
        simpa using h1
      have hold := run_firstCells_some (P := P) w.drew i.size bs.length ⟨g, 0, none⟩ bs.length cap (U bs) (by rw [hsize, U_length]; omega) (by simpa using holds)
      have hr := run_append_grow_src (P := P) w t tx ty e i z ht hi hz (some ⟨g, 0, none⟩) bs.length cap (U bs) hold x news.length (U news) (by rw [hsize]; exact hs) (by omega) (by omega) (growslice_fits (by omega) (by rw [hby]; omega))
      rw [← U_append] at hr
      have hgr := grown cap (by omega)
      exact ⟨_, _, hr, (Fr.refl _ _).alloc _ |> fun h => ⟨h.os, h.tape, h.output, h.size, h.block⟩, hgr⟩
end
end Go.Proofs.YtgbbajeeelgbhaaGreatDoor.Dk

namespace Go.Proofs.YtgbbajeeelgbhaaGreatDoor.Sm
open Go.RowKit Kt Dk Go.Maps Go.ChangeMaps
set_option linter.unusedVariables false
set_option linter.unusedSectionVars false
set_option maxRecDepth 20000

section
variable {α : Type} (key : α → Int)
def put : List α → α → List α
  | [], x => [x]
  | y :: l, x => if key x < key y then x :: y :: l else if key x = key y then x :: l else y :: put l x
def atX : List α → Int → Option α
  | [], _ => none
  | y :: l, k => if key y = k then some y else atX l k
def Srt (l : List α) : Prop := l.Pairwise (fun p q => key p < key q)
variable {key}
theorem atX_mem {l : List α} {k : Int} {o : α} (h : atX key l k = some o) : o ∈ l ∧ key o = k := by
  induction l with
  | nil => cases h
  | cons y l ih =>
    rw [atX] at h
    split at h
    · rename_i he
      cases h
      exact ⟨by simp, he⟩
    · obtain ⟨h1, h2⟩ := ih h
      exact ⟨by simp [h1], h2⟩
theorem mem_at {l : List α} (hs : Srt key l) {x : α} (h : x ∈ l) : atX key l (key x) = some x := by
  induction l with
  | nil => cases h
  | cons y l ih =>
    obtain ⟨h1, h2⟩ := List.pairwise_cons.1 hs
    rw [atX]
    rcases List.mem_cons.1 h with rfl | h
    · rw [if_pos rfl]
    · rw [if_neg (by have := h1 x h; omega)]
      exact ih h2 h
theorem mem_put {l : List α} {x y : α} (h : y ∈ put key l x) : y = x ∨ y ∈ l := by
  induction l with
  | nil => simp [put] at h; exact .inl h
  | cons q l ih =>
    rw [put] at h
    split at h
    · rcases List.mem_cons.1 h with h | h
      · exact .inl h
      · exact .inr h
    · split at h
      · rcases List.mem_cons.1 h with h | h
        · exact .inl h
        · exact .inr (by simp [h])
      · rcases List.mem_cons.1 h with h | h
        · exact .inr (by simp [h])
        · rcases ih h with h | h
          · exact .inl h
          · exact .inr (by simp [h])
theorem srt_put {l : List α} (hs : Srt key l) (x : α) : Srt key (put key l x) := by
  induction l with
  | nil => simp [put, Srt]
  | cons q l ih =>
    obtain ⟨h1, h2⟩ := List.pairwise_cons.1 hs
    rw [put]
    split
    · rename_i h
      refine List.pairwise_cons.2 ⟨fun p hp => ?_, hs⟩
      rcases List.mem_cons.1 hp with rfl | hp
      · exact h
      · have := h1 p hp; omega
    · split
      · rename_i h3 h4
        exact List.pairwise_cons.2 ⟨fun p hp => by have := h1 p hp; omega, h2⟩
      · rename_i h3 h4
        refine List.pairwise_cons.2 ⟨fun p hp => ?_, ih h2⟩
        rcases mem_put hp with rfl | hp
        · omega
        · exact h1 p hp
theorem at_put {l : List α} (x : α) (k : Int) : atX key (put key l x) k = if key x = k then some x else atX key l k := by
  induction l with
  | nil => simp [put, atX]
  | cons q l ih =>
    rw [put]
    split
    · rw [atX]
    · split
      · rename_i h3 h4
        rw [atX, atX]
        by_cases hk : key x = k
        · rw [if_pos hk, if_pos hk]
        · rw [if_neg hk, if_neg hk, if_neg (by omega)]
      · rename_i h3 h4
        rw [atX, ih, atX]
        by_cases hk : key x = k
        · rw [if_neg (by omega), if_pos hk, if_pos hk]
        · rw [if_neg hk, if_neg hk]
theorem at_lt {l : List α} {k : Int} (h : ∀ p ∈ l, k < key p) : atX key l k = none := by
  induction l with
  | nil => rfl
  | cons q l ih => rw [atX, if_neg (by have := h q (by simp); omega)]; exact ih (fun p hp => h p (by simp [hp]))
theorem len_put {l : List α} (hs : Srt key l) (x : α) : (put key l x).length = if (atX key l (key x)).isSome then l.length else l.length + 1 := by
  induction l with
  | nil => simp [put, atX]
  | cons q l ih =>
    obtain ⟨h1, h2⟩ := List.pairwise_cons.1 hs
    rw [put, atX]
    split
    · rename_i h
      rw [if_neg (by omega : ¬ key q = key x), at_lt (fun p hp => by have := h1 p hp; omega)]
      simp
    · split
      · rename_i h3 h4
        rw [if_pos h4.symm]
        simp
      · rename_i h3 h4
        have e : (if key q = key x then some q else atX key l (key x)) = atX key l (key x) := if_neg (fun e => h4 e.symm)
        rw [e, List.length_cons, ih h2]
        split <;> simp
theorem len_put_le (l : List α) (x : α) : (put key l x).length ≤ l.length + 1 := by
  induction l with
  | nil => simp [put]
  | cons q l ih =>
    rw [put]
    split
    · simp
    · split
      · simp
      · simp only [List.length_cons]; omega
theorem map_put {β : Type} {kb : β → Int} (f : α → β) (hf : ∀ a, kb (f a) = key a) (l : List α) (x : α) : (put key l x).map f = put kb (l.map f) (f x) := by
  induction l with
  | nil => rfl
  | cons q l ih =>
    rw [put, List.map_cons, put, hf, hf]
    split
    · rfl
    · split
      · rfl
      · rw [List.map_cons, ih]
theorem map_at {β : Type} {kb : β → Int} (f : α → β) (hf : ∀ a, kb (f a) = key a) (l : List α) (k : Int) : atX kb (l.map f) k = (atX key l k).map f := by
  induction l with
  | nil => rfl
  | cons q l ih =>
    rw [List.map_cons, atX, atX, hf]
    split
    · rfl
    · exact ih
theorem map_srt {β : Type} {kb : β → Int} (f : α → β) (hf : ∀ a, kb (f a) = key a) {l : List α} (h : Srt key l) : Srt kb (l.map f) := by
  unfold Srt
  rw [List.pairwise_map]
  exact List.Pairwise.imp (fun {a b} h => by rw [hf, hf]; exact h) h

variable (key) (val : α → Value)
/-- How a value reads: as itself. -/
def vE (v : Value) : Option (DataW Value × List MemPlace) := some (.held v, [])
theorem vE_mk (v : Value) : vE v = some (.held v, []) := rfl
theorem vE_is {v u : Value} {ps : List MemPlace} (h : vE v = some (.held u, ps)) : v = u := by
  simp only [vE, Option.some.injEq, Prod.mk.injEq, DataW.held.injEq] at h
  exact h.1
def kL (k : Int) : Lit := .int .i64 k
def eD (p : α) : Lit × DataW Value := (kL (key p), .held (val p))
def Dm (l : List α) : DataW Value := .map (l.map (eD key val))
theorem kL_inj {a b : Int} (h : kL a = kL b) : a = b := by simpa only [kL, Lit.int.injEq, true_and] using h
theorem kL_key (a : Int) : WideAt.IsKeyLit (kL a) := trivial
theorem kL_same (a b : Int) : (kL a).sameKey (kL b) = decide (a = b) := by
  by_cases h : a = b
  · subst h; rw [WideAt.sameKey_self (kL_key a)]; simp
  · rw [sameKey_ne (fun e => h (kL_inj e))]; simp [h]
theorem kL_before (a b : Int) : (kL a).before (kL b) = decide (a < b) := by
  simp only [kL, Lit.before]
variable {key val}
theorem insert_put (l : List α) (hs : Srt key l) (x : α) : putKey (kL (key x)) (.held (val x)) (l.map (eD key val)) = (put key l x).map (eD key val) := by
  unfold putKey
  induction l with
  | nil => simp [put, DataW.insert, eD]
  | cons q l ih =>
    obtain ⟨h1, h2⟩ := List.pairwise_cons.1 hs
    have e1 : notKey (kL (key x)) (eD key val q) = !decide (key q = key x) := by simp only [notKey, eD, kL_same]
    have hall : ∀ (hle : key x ≤ key q), (l.map (eD key val)).filter (notKey (kL (key x))) = l.map (eD key val) := fun hle => by
      refine List.filter_eq_self.2 (fun p hp => ?_)
      obtain ⟨u, hu, rfl⟩ := List.mem_map.1 hp
      have := h1 u hu
      simp only [notKey, eD, kL_same]
      simp; omega
    rw [List.map_cons, List.filter_cons, e1, put]
    by_cases ha : key x = key q
    · rw [if_neg (by simp [ha]), if_neg (by omega), if_pos ha, hall (by omega)]
      cases l with
      | nil => rfl
      | cons p l =>
        have := h1 p (by simp)
        simp only [List.map_cons, DataW.insert, eD, kL_before]
        rw [if_pos (by simp; omega)]
    · rw [if_pos (by simp; omega)]
      by_cases hk : key x < key q
      · rw [if_pos hk, hall (by omega)]
        simp only [DataW.insert, eD, kL_before, List.map_cons]
        rw [if_pos (by simpa using hk)]
      · rw [if_neg hk, if_neg ha]
        simp only [DataW.insert, eD, kL_before]
        rw [if_neg (by simpa using hk)]
        simp only [List.map_cons, eD]
        rw [← ih h2]
theorem Dm_put {l : List α} (hs : Srt key l) (x : α) : (Dm key val l).put (kL (key x)) (.held (val x)) = Dm key val (put key l x) := by
  unfold Dm; rw [DataW.put_eq, insert_put l hs]
theorem Dm_has (l : List α) (k : Int) : Maps.has (Dm key val l) (kL k) = (atX key l k).isSome := by
  unfold Dm
  rw [Maps.has_eq]
  induction l with
  | nil => simp [atX]
  | cons q l ih =>
    rw [List.map_cons, List.any_cons, ih, atX]
    simp only [eD, kL_same]
    by_cases h : key q = k <;> simp [h]
theorem Dm_at (l : List α) (k : Int) (z : DataW Value) : (Dm key val l).atKey (kL k) z = match atX key l k with | none => z | some v => .held (val v) := by
  unfold Dm
  induction l with
  | nil => simp [atX, DataW.atKey]
  | cons q l ih =>
    simp only [DataW.atKey, List.map_cons, List.find?_cons] at ih ⊢
    simp only [eD, kL_same, atX]
    by_cases h : key q = k
    · simp [h]
    · simp only [h, decide_false, if_false]
      exact ih
theorem Dm_size (l : List α) : Maps.size (Dm key val l) = l.length := by unfold Dm; rw [Maps.size_eq]; simp
variable (P : Program) (tk : TypeId) (key) (val)
/-- Block b is a map that has this. -/
def Mw (w : World) (b : Nat) (l : List α) : Prop := w.ownsMap P tk vE b l.length (Dm key val l)
variable {P} {tk} {key} {val}
theorem hkey (hu : P.underlying tk = some (.int .i64)) {k : Int} (h : (Lit.int .i64 k).wf = true) : keyOf P tk (.int .i64 k) = some (kL k) := keyOf_int_mk hu h
theorem tight {w : World} {b n : Nat} {l : List α} (h : w.ownsMap P tk vE b n (Dm key val l)) : Mw key val P tk w b l := by
  obtain ⟨es, clock, hb, F, hs, hD⟩ := h
  have h1 := congrArg Maps.size hD
  rw [Dm_size] at h1
  simp only [Maps.size, Go.length_sorted, List.length_map, Array.length_toList] at h1
  exact ⟨es, clock, hb, F, by omega, hD⟩
theorem Mw.fr {w w' : World} {Q : Nat → Prop} {b : Nat} {l : List α} (h : Mw key val P tk w b l) (hf : Fr Q w w') (hq : ¬ Q b) : Mw key val P tk w' b l := by
  have hlt := h.lt
  obtain ⟨es, clock, hb, r⟩ := h
  exact ⟨es, clock, (hf.heap hlt hq).trans hb, r⟩
theorem Mw.below {w w' : World} {b : Nat} {l : List α} (h : Mw key val P tk w b l) (hb : Below w.heap.size w w') : Mw key val P tk w' b l := h.fr (Q := fun _ => False) (Fr.ofBelow hb) (fun x => x)
theorem Mw.made (w : World) : Mw key val P tk (w.alloc (.map #[] 0)) w.heap.size [] := World.ownsMap_made w _ _ _
/-- A map's block has no cells. -/
theorem Mw.cell {w : World} {b : Nat} {l : List α} (h : Mw key val P tk w b l) {a : Addr} {v : Value} (hc : w.cell? a = some v) : a.block ≠ b := by
  obtain ⟨es, clock, hb, r⟩ := h
  rintro rfl
  simp only [World.cell?, hb] at hc
  cases hc
theorem Mw.len {tm te : TypeId} (hm : P.underlying tm = some (.map tk te)) {w : World} {b : Nat} {l : List α} (h : Mw key val P tk w b l) (ty : TypeId) : (Builtin.len_ #[tm] ty #[.map (some b)]).run P w = .ok (.int .i64 (l.length : Int)) w := by
  have h1 := World.ownsMap.len h hm ty
  rw [Dm_size] at h1
  exact h1
theorem fr_turned {w w' : World} {b : Nat} (h : w.mapTurned w' b) : Fr (fun k => k = b) w w' := by
  have h := h.grown
  exact ⟨h.os, h.tape, h.output, h.size, fun k hk hn => h.block k hk (fun e => hn (Option.some.inj e))⟩
/-- 'x, has := m[k]'. -/
theorem look2 (hu : P.underlying tk = some (.int .i64)) {tm te : TypeId} (hm : P.underlying tm = some (.map tk te)) {z : Value} {W : World} (hz : (zeroValue te).run P W = .ok z W) {b : Nat} {l : List α} (h : Mw key val P tk W b l) {k : Int} (hk : (Lit.int .i64 k).wf = true) :
    (Instr.lookup tm (.map (some b)) (.int .i64 k) true).run P W = .ok (.tuple #[match atX key l k with | none => z | some v => val v, .bool (atX key l k).isSome]) W := by
  obtain ⟨v, ps, hrun, hv⟩ := World.ownsMap.look_ok h (int_keyed hu) hm hz (vE_mk _) (hkey hu hk)
  rw [Dm_at] at hv
  rw [Dm_has] at hrun
  cases ha : atX key l k with
  | none => rw [ha] at hv hrun; rw [hrun, vE_is hv]
  | some u => rw [ha] at hv hrun; rw [hrun, vE_is hv]
/-- 'm[k]'. -/
theorem look1 (hu : P.underlying tk = some (.int .i64)) {tm te : TypeId} (hm : P.underlying tm = some (.map tk te)) {z : Value} {W : World} (hz : (zeroValue te).run P W = .ok z W) {b : Nat} {l : List α} (h : Mw key val P tk W b l) {k : Int} (hk : (Lit.int .i64 k).wf = true) :
    (Instr.lookup tm (.map (some b)) (.int .i64 k) false).run P W = .ok (match atX key l k with | none => z | some v => val v) W := by
  obtain ⟨v, ps, hrun, hv⟩ := World.ownsMap.lookup h (int_keyed hu) hm hz (vE_mk _) (hkey hu hk)
  rw [Dm_at] at hv
  cases ha : atX key l k with
  | none => rw [ha] at hv; rw [hrun, vE_is hv]
  | some u => rw [ha] at hv; rw [hrun, vE_is hv]
/-- 'm[k] = x'. -/
theorem store1 (hu : P.underlying tk = some (.int .i64)) {tm te : TypeId} (hm : P.underlying tm = some (.map tk te)) {W : World} {b : Nat} {l : List α} (h : Mw key val P tk W b l) (hs : Srt key l) (hl : l.length ≤ 1000000000) (x : α) (hk : (Lit.int .i64 (key x)).wf = true) :
    ∃ W', (Instr.mapUpdate tm (.map (some b)) (.int .i64 (key x)) (val x)).run P W = .ok () W' ∧ Mw key val P tk W' b (put key l x) ∧ Fr (fun k => k = b) W W' := by
  obtain ⟨w5, hrun, hown5, hturn⟩ := World.ownsMap.store h (int_keyed hu) hm (by unfold maxLen; omega) (hkey hu hk) (vE_mk (val x))
  rw [Dm_put hs] at hown5
  exact ⟨w5, hrun, tight hown5, fr_turned hturn⟩
end
end Go.Proofs.YtgbbajeeelgbhaaGreatDoor.Sm
