/-
  What a log is in memory, and the small functions of seglog: isMade, trouble, Base, Len, Safe, Down, New.
-/
import Derived.Test.YthmedpabgblddabGreatDoorSgR
import Derived.Test.YthmedpabgblddabGreatDoorDiE
import Derived.Test.YthmedpabgblddabGreatDoorCrcV
namespace Go.Proofs.YthmedpabgblddabGreatDoor.Sa
open Go.RowKit Kt Dk Dp Da Db Dc Dd De Sq Sr
set_option linter.unusedVariables false
set_option maxRecDepth 20000

/-- .. and what is new. -/
def Nw (F : Nat → Prop) (w w' : World) : Nat → Prop := fun k => F k ∨ (w.heap.size ≤ k ∧ k < w'.heap.size)
theorem Nw.nx {F : Nat → Prop} {w w' : World} (h : Fr F w w') : Nx F w w' (Nw F w w') := ⟨h, fun k hk => by rcases hk with x | x; exact .inl x; exact .inr x.1⟩
theorem Nw.lt {F : Nat → Prop} {w w' : World} (h : ∀ k, F k → k < w.heap.size) (hs : w.heap.size ≤ w'.heap.size) : ∀ k, Nw F w w' k → k < w'.heap.size := fun k hk => by
  rcases hk with x | x
  · have := h k x; omega
  · exact x.2

def Pt (Ps : List Nat) : List Value := Ps.map fun D => Value.pointer (some ⟨D, 0, none⟩)
theorem Pt_len (Ps : List Nat) : (Pt Ps).length = Ps.length := by simp [Pt]
theorem Pt_at {Ps : List Nat} {i D : Nat} (h : Ps[i]? = some D) : (Pt Ps)[i]? = some (.pointer (some ⟨D, 0, none⟩)) := by simp [Pt, h]

/-- These blocks are disks that have this, apart from each other. -/
def Sk (w : World) (FD : Nat → Prop) (Ps : List Nat) (ss : List St) : Prop :=
  Ps.length = ss.length ∧ ∃ G : Nat → Nat → Prop, (∀ i k, G i k → FD k) ∧ (∀ i j k, G i k → G j k → i = j) ∧ ∀ i D s, Ps[i]? = some D → ss[i]? = some s → Ds w (G i) D s
theorem Sk.fr {w w' : World} {FD Q : Nat → Prop} {Ps : List Nat} {ss : List St} (h : Sk w FD Ps ss) (hf : Fr Q w w') (hd : ∀ k, FD k → ¬ Q k) : Sk w' FD Ps ss := by
  obtain ⟨h1, G, h2, h3, h4⟩ := h
  exact ⟨h1, G, h2, h3, fun i D s hD hs => (h4 i D s hD hs).fr hf (fun k hk => hd k (h2 i k hk))⟩
theorem Sk.below {w w' : World} {FD : Nat → Prop} {Ps : List Nat} {ss : List St} (h : Sk w FD Ps ss) (hb : Below w.heap.size w w') : Sk w' FD Ps ss := h.fr (Q := fun _ => False) (Fr.ofBelow hb) (fun _ _ x => x)
theorem Sk.mono {w : World} {FD FE : Nat → Prop} {Ps : List Nat} {ss : List St} (h : Sk w FD Ps ss) (hi : ∀ k, FD k → FE k) : Sk w FE Ps ss := by
  obtain ⟨h1, G, h2, h3⟩ := h
  exact ⟨h1, G, fun i k hk => hi k (h2 i k hk), h3⟩
theorem Sk.nil (w : World) (FD : Nat → Prop) : Sk w FD [] [] := ⟨rfl, fun _ _ => False, fun _ _ h => h.elim, fun _ _ _ h => h.elim, fun i D s h => by simp at h⟩
theorem Sk.at {w : World} {FD : Nat → Prop} {Ps : List Nat} {ss : List St} (h : Sk w FD Ps ss) (hlt : ∀ k, FD k → k < w.heap.size) {i D : Nat} {s : St} (h1 : Ps[i]? = some D) (h2 : ss[i]? = some s) :
    ∃ G : Nat → Prop, Ds w G D s ∧ (∀ k, G k → FD k) ∧ ∀ (w' : World) (G' : Nat → Prop) (s' : St), Ds w' G' D s' → Nx G w w' G' → Sk w' (Nw FD w w') Ps (ss.set i s') := by
  obtain ⟨h0, G, g1, g2, g3⟩ := h
  refine ⟨G i, g3 i D s h1 h2, g1 i, fun w' G' s' hd hn => ⟨by simpa using h0, fun j => if j = i then G' else G j, ?_, ?_, ?_⟩⟩
  · intro j k hk
    split at hk
    · rcases hn.2 k hk with x | x
      · exact .inl (g1 i k x)
      · exact .inr ⟨x, hd.lt k hk⟩
    · exact .inl (g1 j k hk)
  · intro a b k ha hb
    split at ha <;> split at hb
    · omega
    · rename_i e1 e2
      rcases hn.2 k ha with x | x
      · exact (e2 (g2 b i k hb x)).elim
      · have := hlt k (g1 b k hb); omega
    · rename_i e1 e2
      rcases hn.2 k hb with x | x
      · exact (e1 (g2 a i k ha x)).elim
      · have := hlt k (g1 a k ha); omega
    · exact g2 a b k ha hb
  · intro j E t hE ht
    simp only
    by_cases hj : j = i
    · subst hj
      rw [if_pos rfl]
      rw [h1] at hE
      cases hE
      have hil : j < ss.length := (List.getElem?_eq_some_iff.1 h2).1
      rw [List.getElem?_set_self hil] at ht
      cases ht
      exact hd
    · rw [if_neg hj]
      rw [List.getElem?_set_ne (by omega)] at ht
      exact (g3 j E t hE ht).fr hn.1 (fun k hk hx => hj (g2 j i k hk hx))
theorem Sk.snoc {w : World} {FD G : Nat → Prop} {Ps : List Nat} {ss : List St} {D : Nat} {s : St} (h : Sk w FD Ps ss) (hd : Ds w G D s) (hn : ∀ k, G k → ¬ FD k) : Sk w (fun k => FD k ∨ G k) (Ps ++ [D]) (ss ++ [s]) := by
  obtain ⟨h0, G0, g1, g2, g3⟩ := h
  refine ⟨by simp [h0], fun j => if j < Ps.length then G0 j else if j = Ps.length then G else fun _ => False, ?_, ?_, ?_⟩
  · intro j k hk
    split at hk
    · exact .inl (g1 j k hk)
    · split at hk
      · exact .inr hk
      · exact hk.elim
  · intro a b k ha hb
    split at ha <;> split at hb
    · exact g2 a b k ha hb
    · split at hb
      · exact (hn k hb (g1 a k ha)).elim
      · exact hb.elim
    · split at ha
      · exact (hn k ha (g1 b k hb)).elim
      · exact ha.elim
    · split at ha
      · split at hb
        · omega
        · exact hb.elim
      · exact ha.elim
  · intro j E t hE ht
    simp only
    by_cases hj : j < Ps.length
    · rw [if_pos hj]
      rw [List.getElem?_append_left hj] at hE
      rw [List.getElem?_append_left (by omega)] at ht
      exact g3 j E t hE ht
    · rw [if_neg hj]
      rw [List.getElem?_append_right (by omega)] at hE
      rw [List.getElem?_append_right (by omega)] at ht
      by_cases e : j = Ps.length
      · rw [if_pos e]
        subst e
        simp at hE
        rw [h0] at ht
        simp at ht
        subst hE
        subst ht
        exact hd
      · have : j - Ps.length ≠ 0 := by omega
        obtain ⟨q, hq⟩ : ∃ q, j - Ps.length = q + 1 := ⟨j - Ps.length - 1, by omega⟩
        rw [hq] at hE
        simp at hE
theorem Sk.drop {w : World} {FD : Nat → Prop} {Ps : List Nat} {ss : List St} (h : Sk w FD Ps ss) (n : Nat) : Sk w FD (Ps.drop n) (ss.drop n) := by
  obtain ⟨h0, G, g1, g2, g3⟩ := h
  refine ⟨by simp [h0], fun i => G (n + i), fun i k hk => g1 _ k hk, fun i j k hi hj => by have := g2 _ _ k hi hj; omega, fun i D s hD hs => ?_⟩
  rw [List.getElem?_drop] at hD hs
  exact g3 _ D s hD hs
theorem Sk.take {w : World} {FD : Nat → Prop} {Ps : List Nat} {ss : List St} (h : Sk w FD Ps ss) (n : Nat) : Sk w FD (Ps.take n) (ss.take n) := by
  obtain ⟨h0, G, g1, g2, g3⟩ := h
  refine ⟨by simp [h0], G, g1, g2, fun i D s hD hs => ?_⟩
  rw [List.getElem?_take] at hD hs
  split at hD
  · rename_i hi
    rw [if_pos hi] at hs
    exact g3 _ D s hD hs
  · cases hD

/-- A row of pointers of one's own. -/
def Rp (w : World) (F FD : Nat → Prop) (B : Nat) (v : Value) (Ps : List Nat) : Prop :=
  w.ownsRow 0 45 1 v Ps.length (Pt Ps) ∧ ∀ g, v.ownBlock = some g → F g ∧ g ≠ B ∧ ¬ FD g
theorem own_keeps {w w' : World} {base e size n : Nat} {v : Value} {xs : List Value} (h : w.ownsRow base e size v n xs) (hk : ∀ g, v.ownBlock = some g → w'.heap[g]? = w.heap[g]?) : w'.ownsRow base e size v n xs := by
  refine ⟨h.1, ?_⟩
  rcases h.2 with h1 | ⟨g, cap, cur, rfl, e2, e3, e4⟩
  · exact .inl h1
  · exact .inr ⟨g, cap, cur, rfl, e2, by rw [hk g rfl]; exact e3, e4⟩

/-- Block B is a log's. -/
structure Lr (w : World) (F FD : Nat → Prop) (B : Nat) (per : Nat) (down : Bool) (v : Value) (base next safe : Nat) (Ps : List Nat) : Prop where
  lt : ∀ k, F k → k < w.heap.size
  own : F B
  fd : ∀ k, FD k → F k ∧ k ≠ B
  heap : w.heap[B]? = some (.cells #[.int .i64 (per : Int), .bool down, v, .int .i64 (base : Int), .int .i64 (next : Int), .int .i64 (safe : Int)] 71 (0, 0))
  row : Rp w F FD B v Ps
section
variable {w : World} {F FD : Nat → Prop} {B per : Nat} {down : Bool} {v : Value} {base next safe : Nat} {Ps : List Nat}
theorem Lr.c0 (h : Lr w F FD B per down v base next safe Ps) : w.cell? ⟨B, 0, none⟩ = some (.int .i64 (per : Int)) := by rw [cell_of_row _ _ _ _ _ _ h.heap]; rfl
theorem Lr.c1 (h : Lr w F FD B per down v base next safe Ps) : w.cell? ⟨B, 1, none⟩ = some (.bool down) := by rw [cell_of_row _ _ _ _ _ _ h.heap]; rfl
theorem Lr.c2 (h : Lr w F FD B per down v base next safe Ps) : w.cell? ⟨B, 2, none⟩ = some v := by rw [cell_of_row _ _ _ _ _ _ h.heap]; rfl
theorem Lr.c3 (h : Lr w F FD B per down v base next safe Ps) : w.cell? ⟨B, 3, none⟩ = some (.int .i64 (base : Int)) := by rw [cell_of_row _ _ _ _ _ _ h.heap]; rfl
theorem Lr.c4 (h : Lr w F FD B per down v base next safe Ps) : w.cell? ⟨B, 4, none⟩ = some (.int .i64 (next : Int)) := by rw [cell_of_row _ _ _ _ _ _ h.heap]; rfl
theorem Lr.c5 (h : Lr w F FD B per down v base next safe Ps) : w.cell? ⟨B, 5, none⟩ = some (.int .i64 (safe : Int)) := by rw [cell_of_row _ _ _ _ _ _ h.heap]; rfl
theorem Lr.fz (h : Lr w F FD B per down v base next safe Ps) (k : Nat) : w.frozen? ⟨B, k, none⟩ = false := frozen_of_row w B k _ _ h.heap
theorem Lr.blt (h : Lr w F FD B per down v base next safe Ps) : B < w.heap.size := block_lt h.heap
theorem Lr.fdlt (h : Lr w F FD B per down v base next safe Ps) : ∀ k, FD k → k < w.heap.size := fun k hk => h.lt k (h.fd k hk).1
/-- What turns elsewhere. -/
theorem Lr.fr {w' : World} {Q : Nat → Prop} (h : Lr w F FD B per down v base next safe Ps) (hf : Fr Q w w') (hq : ∀ k, Q k → ¬ F k) : Lr w' F FD B per down v base next safe Ps :=
  ⟨fun k hk => Nat.lt_of_lt_of_le (h.lt k hk) hf.size, h.own, h.fd, by rw [hf.heap h.blt (fun x => hq B x h.own)]; exact h.heap,
   own_keeps h.row.1 (fun g hg => hf.heap (h.lt g (h.row.2 g hg).1) (fun x => hq g x (h.row.2 g hg).1)), h.row.2⟩
theorem Lr.below {w' : World} (h : Lr w F FD B per down v base next safe Ps) (hb : Below w.heap.size w w') : Lr w' F FD B per down v base next safe Ps := h.fr (Q := fun _ => False) (Fr.ofBelow hb) (fun _ x => x.elim)
/-- .. and what turns among its disks. -/
theorem Lr.disk {w' : World} {Q : Nat → Prop} (h : Lr w F FD B per down v base next safe Ps) (hf : Fr Q w w') (hq : ∀ k, Q k → FD k) : Lr w' (Nw F w w') (Nw FD w w') B per down v base next safe Ps := by
  refine ⟨Nw.lt h.lt hf.size, .inl h.own, fun k hk => ?_, by rw [hf.heap h.blt (fun x => (h.fd B (hq B x)).2 rfl)]; exact h.heap, own_keeps h.row.1 (fun g hg => hf.heap (h.lt g (h.row.2 g hg).1) (fun x => (h.row.2 g hg).2.2 (hq g x))), fun g hg => ?_⟩
  · rcases hk with x | x
    · exact ⟨.inl (h.fd k x).1, (h.fd k x).2⟩
    · have := h.blt; exact ⟨.inr x, by omega⟩
  · obtain ⟨a, b, c⟩ := h.row.2 g hg
    refine ⟨.inl a, b, fun x => ?_⟩
    rcases x with x | x
    · exact c x
    · have := h.lt g a; omega
theorem lr_set (h : Lr w F FD B per down v base next safe Ps) (i : Nat) (u : Value) : Fr (fun k => k = B) w (w.setCell ⟨B, i, none⟩ u) := by
  rw [setCell_eq_setRow w B i _ _ (0, 0) _ h.heap]
  exact (Fr.refl (fun k => k = B) w).setRow (b := B) (.inl rfl) _
theorem lr_row (h : Lr w F FD B per down v base next safe Ps) (i : Nat) (u : Value) : Rp (w.setCell ⟨B, i, none⟩ u) F FD B v Ps :=
  ⟨own_keeps h.row.1 (fun g hg => (lr_set h i u).heap (h.lt g (h.row.2 g hg).1) (h.row.2 g hg).2.1), h.row.2⟩
theorem lr_lt (h : Lr w F FD B per down v base next safe Ps) (i : Nat) (u : Value) : ∀ k, F k → k < (w.setCell ⟨B, i, none⟩ u).heap.size := fun k hk => Nat.lt_of_lt_of_le (h.lt k hk) (lr_set h i u).size
theorem Lr.setDown (h : Lr w F FD B per down v base next safe Ps) (d : Bool) : Lr (w.setCell ⟨B, 1, none⟩ (.bool d)) F FD B per d v base next safe Ps :=
  ⟨lr_lt h _ _, h.own, h.fd, by rw [setCell_eq_setRow w B 1 _ _ (0, 0) _ h.heap]; exact setRow_heap _ _ _ _ _ _ h.heap, lr_row h _ _⟩
theorem Lr.setBase (h : Lr w F FD B per down v base next safe Ps) (n : Nat) : Lr (w.setCell ⟨B, 3, none⟩ (.int .i64 (n : Int))) F FD B per down v n next safe Ps :=
  ⟨lr_lt h _ _, h.own, h.fd, by rw [setCell_eq_setRow w B 3 _ _ (0, 0) _ h.heap]; exact setRow_heap _ _ _ _ _ _ h.heap, lr_row h _ _⟩
theorem Lr.setNext (h : Lr w F FD B per down v base next safe Ps) (n : Nat) : Lr (w.setCell ⟨B, 4, none⟩ (.int .i64 (n : Int))) F FD B per down v base n safe Ps :=
  ⟨lr_lt h _ _, h.own, h.fd, by rw [setCell_eq_setRow w B 4 _ _ (0, 0) _ h.heap]; exact setRow_heap _ _ _ _ _ _ h.heap, lr_row h _ _⟩
theorem Lr.setSafe (h : Lr w F FD B per down v base next safe Ps) (n : Nat) : Lr (w.setCell ⟨B, 5, none⟩ (.int .i64 (n : Int))) F FD B per down v base next n Ps :=
  ⟨lr_lt h _ _, h.own, h.fd, by rw [setCell_eq_setRow w B 5 _ _ (0, 0) _ h.heap]; exact setRow_heap _ _ _ _ _ _ h.heap, lr_row h _ _⟩
/-- Another row is put in. -/
theorem lr_mk {v2 : Value} {Ps2 : List Nat} (lt : ∀ k, F k → k < w.heap.size) (own : F B) (fd : ∀ k, FD k → F k ∧ k ≠ B)
    (heap : w.heap[B]? = some (.cells #[.int .i64 (per : Int), .bool down, v, .int .i64 (base : Int), .int .i64 (next : Int), .int .i64 (safe : Int)] 71 (0, 0))) (hr : Rp w F FD B v2 Ps2) : Lr (w.setCell ⟨B, 2, none⟩ v2) F FD B per down v2 base next safe Ps2 := by
  rw [setCell_eq_setRow w B 2 _ _ (0, 0) _ heap]
  exact ⟨fun k hk => by rw [setRow_size]; exact lt k hk, own, fd, setRow_heap _ _ _ _ _ _ heap, own_keeps hr.1 (fun g hg => setRow_other _ _ _ _ (fun e => (hr.2 g hg).2.1 e)), hr.2⟩
theorem lr_fr2 (heap : w.heap[B]? = some (.cells #[.int .i64 (per : Int), .bool down, v, .int .i64 (base : Int), .int .i64 (next : Int), .int .i64 (safe : Int)] 71 (0, 0))) (u : Value) : Fr (fun k => k = B) w (w.setCell ⟨B, 2, none⟩ u) := by
  rw [setCell_eq_setRow w B 2 _ _ (0, 0) _ heap]
  exact (Fr.refl (fun k => k = B) w).setRow (b := B) (.inl rfl) _
theorem Sk.lr {ss : List St} (hs : Sk w FD Ps ss) (h : Lr w F FD B per down v base next safe Ps) (i : Nat) (u : Value) : Sk (w.setCell ⟨B, i, none⟩ u) FD Ps ss := hs.fr (lr_set h i u) (fun k hk e => (h.fd k hk).2 e)
theorem Lr.nx (h : Lr w F FD B per down v base next safe Ps) (i : Nat) (u : Value) : Nx F w (w.setCell ⟨B, i, none⟩ u) F := nx_own (lr_set h i u) h.own
end

def nb (h : H) : Nat := if h.dn.isSome then 0 else bas h.segs
def nn (h : H) : Nat := if h.dn.isSome then 0 else top h.segs
def ns (h : H) : Nat := if h.dn.isSome then 0 else h.safe
/-- Block B is a log that has this. -/
def Lg (w : World) (F : Nat → Prop) (B : Nat) (h : H) : Prop := ∃ v FD Ps, Lr w F FD B h.per h.dn.isSome v (nb h) (nn h) (ns h) Ps ∧ Sk w FD Ps (h.segs.map (dst h.dn))
theorem Lg.below {w w' : World} {F : Nat → Prop} {B : Nat} {h : H} (hl : Lg w F B h) (hb : Below w.heap.size w w') : Lg w' F B h := by
  obtain ⟨v, FD, Ps, h1, h2⟩ := hl
  exact ⟨v, FD, Ps, h1.below hb, h2.below hb⟩
theorem Lg.fr {w w' : World} {F Q : Nat → Prop} {B : Nat} {h : H} (hl : Lg w F B h) (hf : Fr Q w w') (hq : ∀ k, Q k → ¬ F k) : Lg w' F B h := by
  obtain ⟨v, FD, Ps, h1, h2⟩ := hl
  exact ⟨v, FD, Ps, h1.fr hf hq, h2.fr hf (fun k hk x => hq k x (h1.fd k hk).1)⟩
theorem Lg.lt {w : World} {F : Nat → Prop} {B : Nat} {h : H} (hl : Lg w F B h) : ∀ k, F k → k < w.heap.size := by obtain ⟨v, FD, Ps, h1, h2⟩ := hl; exact h1.lt
theorem Lg.own {w : World} {F : Nat → Prop} {B : Nat} {h : H} (hl : Lg w F B h) : F B := by obtain ⟨v, FD, Ps, h1, h2⟩ := hl; exact h1.own

/-! The small functions. -/
theorem isMade_any (w : World) (b per : Nat) (hp : 1 ≤ per) (h : w.cell? ⟨b, 0, none⟩ = some (.int .i64 (per : Int))) :
    Calls Tryz.prog 48 #[.pointer (some ⟨b, 0, none⟩)] w fun e w' => e = .returned (.bool true) ∧ w' = w := by
  go_enter Tryz.func48, Tryz.ntmps48
  go_wp2
  go_ret
  refine ⟨?_, rfl⟩
  show Ending.returned (Value.bool (decide (0 < per))) = _
  rw [show decide (0 < per) = true by simp; omega]

theorem isMade_not (w : World) (b : Nat) (h : w.cell? ⟨b, 0, none⟩ = some (.int .i64 0)) :
    Calls Tryz.prog 48 #[.pointer (some ⟨b, 0, none⟩)] w fun e w' => e = .returned (.bool false) ∧ w' = w := by
  go_enter Tryz.func48, Tryz.ntmps48
  go_wp2
  go_ret
  exact ⟨rfl, rfl⟩

theorem isMade_nil (w : World) :
    Calls Tryz.prog 48 #[.pointer none] w fun e w' => e = .returned (.bool false) ∧ w' = w := by
  go_enter Tryz.func48, Tryz.ntmps48
  go_wp2
  go_ret
  exact ⟨rfl, rfl⟩

theorem trouble_any (w : World) (b per : Nat) (d : Bool) (hp : 1 ≤ per) (h : w.cell? ⟨b, 0, none⟩ = some (.int .i64 (per : Int))) (h1 : w.cell? ⟨b, 1, none⟩ = some (.bool d)) :
    Calls Tryz.prog 42 #[.pointer (some ⟨b, 0, none⟩)] w fun e w' => e = .returned (.int .i64 (if d then 10 else 0)) ∧ w' = w := by
  go_enter Tryz.func42, Tryz.ntmps42
  go_wp2_with fail
  refine (isMade_any w b per hp h).mono ?_
  rintro e w1 ⟨rfl, hw⟩
  have hw2 := hw.symm
  subst hw2
  cases d
  · go_wp2
    go_ret
    exact ⟨rfl, rfl⟩
  · go_wp2
    go_ret
    exact ⟨rfl, rfl⟩

section
variable {w : World} {F : Nat → Prop} {B : Nat} {h : H}
theorem base_any (hl : Lg w F B h) (hp : 1 ≤ h.per) : Calls Tryz.prog 57 #[.pointer (some ⟨B, 0, none⟩)] w fun e w' => e = .returned (.int .i64 (nb h : Nat)) ∧ w' = w := by
  obtain ⟨v, FD, Ps, h1, h2⟩ := hl
  have c0 := h1.c0
  have c3 := h1.c3
  clear h1 h2
  go_enter Tryz.func57, Tryz.ntmps57
  go_wp2_with fail
  refine (isMade_any w B _ hp c0).mono ?_
  rintro e w1 ⟨rfl, hw⟩
  have hw2 := hw.symm
  subst hw2
  go_wp2
  go_ret
  exact ⟨rfl, rfl⟩

theorem down_any (hl : Lg w F B h) (hp : 1 ≤ h.per) : Calls Tryz.prog 39 #[.pointer (some ⟨B, 0, none⟩)] w fun e w' => e = .returned (.bool h.dn.isSome) ∧ w' = w := by
  obtain ⟨v, FD, Ps, h1, h2⟩ := hl
  have c0 := h1.c0
  have c1 := h1.c1
  clear h1 h2
  go_enter Tryz.func39, Tryz.ntmps39
  go_wp2_with fail
  refine (isMade_any w B _ hp c0).mono ?_
  rintro e w1 ⟨rfl, hw⟩
  have hw2 := hw.symm
  subst hw2
  go_wp2
  go_ret
  exact ⟨rfl, rfl⟩
end

theorem new_any (w : World) (per : Nat) (h1 : 1 ≤ per) (h2 : per ≤ 1024) : Calls Tryz.prog 34 #[.int .i64 (per : Int)] w fun e w' => e = .returned (.tuple #[.pointer (some ⟨w.heap.size, 0, none⟩), .int .i64 0]) ∧ Lg w' (fun k => k = w.heap.size) w.heap.size ⟨per, [], 0, none⟩ ∧ Below w.heap.size w w' := by
  have t1 : decide ((per : Int) < (1 : Int)) = false := by simp; omega
  have t2 : decide ((1024 : Int) < (per : Int)) = false := by simp; omega
  have t3 : ¬ (per : Int) < 1 := by omega
  have t4 : ¬ (1024 : Int) < (per : Int) := by omega
  go_enter Tryz.func34, Tryz.ntmps34
  go_wp2
  go_ret2
  refine ⟨rfl, ⟨.slice none 0 0, fun _ => False, [], ⟨?_, rfl, fun k hk => hk.elim, ?_, ?_⟩, Sk.nil _ _⟩, (Below.refl _ w).alloc (Nat.le_refl _) _⟩
  · intro k hk; subst hk; simp
  · exact heap_alloc_new _ _
  · exact ⟨World.ownsRow_nil _ _ _ _, fun g hg => by simp [Value.ownBlock] at hg⟩

theorem new_bad (w : World) (per : Int) (h : per < 1 ∨ 1024 < per) : Calls Tryz.prog 34 #[.int .i64 per] w fun e w' => e = .returned (.tuple #[.pointer none, .int .i64 2]) ∧ w' = w := by
  go_enter Tryz.func34, Tryz.ntmps34
  rcases Int.lt_or_le per 1 with h1 | h1
  · have t1 : decide (per < (1 : Int)) = true := by simp; omega
    clear h
    go_wp2
    go_ret2
    exact ⟨rfl, rfl⟩
  · have t1 : decide (per < (1 : Int)) = false := by simp; omega
    have t2 : decide ((1024 : Int) < per) = true := by simp; omega
    have t3 : ¬ per < 1 := by omega
    have t4 : (1024 : Int) < per := by omega
    clear h
    go_wp2
    go_ret2
    exact ⟨rfl, rfl⟩
end Go.Proofs.YthmedpabgblddabGreatDoor.Sa
