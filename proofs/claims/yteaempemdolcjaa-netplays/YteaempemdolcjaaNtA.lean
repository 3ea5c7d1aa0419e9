/-
  Bags of int: what a bag has, and the contracts of Len, Get, Put.
-/
import Derived.Test.YteaempemdolcjaaNtS
import Derived.Test.YteaempemdolcjaaNtV
import Derived.Test.YteaempemdolcjaaKitS
namespace Go.Proofs.Yteaempemdolcjaa.Na
open Go.RowKit Kt Gf Nr Gk Ns Nv Ks
set_option linter.unusedVariables false
set_option linter.unusedSimpArgs false
set_option maxRecDepth 20000

/-- A thing and its number, as cells. -/
def iC (x : Int × Int) : List Value := [.int .i64 x.1, (.int .i64 x.2)]
theorem iC_len (x : Int × Int) : (iC x).length = 2 := rfl
theorem iC_one (x : Int × Int) : ∀ u ∈ iC x, u.oneCell' = true := by intro u hu; simp [iC] at hu; rcases hu with rfl | rfl <;> rfl
abbrev Fi (l : List (Int × Int)) : List Value := Fl iC l
theorem infoI : (Try.prog.info? 55).map (fun i => (i.zero, i.size, i.bytes)) = some (some (.agg #[.int .i64 0, (.int .i64 0)]), 2, 16) := by kernel_rfl
theorem infoE : (Try.prog.info? 3).map (fun i => (i.zero, i.size, i.bytes)) = some (some (.int .i64 0), 1, 8) := by kernel_rfl
theorem szI : (Try.prog.info? 55).map (·.size) = some 2 := by kernel_rfl

/-- A slice of things, as it is read. -/
def RowE (w : World) (ao : Option Addr) (l : List Int) : Prop :=
  0 < l.length → ∃ b off, ao = some ⟨b, off, none⟩ ∧ ∀ i x, l[i]? = some x → w.cell? ⟨b, off + i, none⟩ = some (.int .i64 x)
theorem RowE.nil (w : World) (ao : Option Addr) : RowE w ao [] := fun h => by simp at h
theorem RowE.below {w w' : World} {ao : Option Addr} {l : List Int} (h : RowE w ao l) (hb : Below w.heap.size w w') : RowE w' ao l := by
  intro hl
  obtain ⟨b, off, e, hc⟩ := h hl
  refine ⟨b, off, e, fun i x hx => ?_⟩
  have h1 := hc i x hx
  rw [hb.cell (p := ⟨b, off + i, none⟩) (World.block_lt_of_cell? w _ h1)]
  exact h1
theorem RowE.fr {w w' : World} {Q : Nat → Prop} {ao : Option Addr} {l : List Int} (h : RowE w ao l) (hf : Fr Q w w') (hq : ∀ a, ao = some a → ¬ Q a.block) : RowE w' ao l := by
  intro hl
  obtain ⟨b, off, e, hc⟩ := h hl
  refine ⟨b, off, e, fun i x hx => ?_⟩
  have h1 := hc i x hx
  rw [World.cell?_of_block (w := w) (a := ⟨b, off + i, none⟩) (hf.heap (World.block_lt_of_cell? w _ h1) (hq ⟨b, off, none⟩ e))]
  exact h1
theorem RowE.new1 (W : World) (x : Int) (t : TypeId) : RowE (W.alloc (.cells #[(.int .i64 x)] t)) (some ⟨W.heap.size, 0, none⟩) [x] := by
  intro _
  refine ⟨W.heap.size, 0, rfl, fun i y hy => ?_⟩
  have hi := lt_of hy
  simp at hi
  subst hi
  simp at hy
  subst hy
  exact cell_new_at W _ t 0 _ rfl

/-- A bag: block b has the list's things and the next one's number; its row lies in a block of C. -/
def Bg (C : Nat → Prop) (w : World) (b : Nat) (L : List (Int × Int)) (p : Int) : Prop :=
  ∃ ao cap, Bx w b #[.slice ao L.length cap, .int .i64 p] 26 ∧ w.ownsRow 0 55 2 (.slice ao L.length cap) L.length (Fi L) ∧ ∀ k, (Value.slice ao L.length cap).ownBlock = some k → C k
/-- What a call on a bag may turn: its block, and rows of things in blocks of C. -/
def Ft (C : Nat → Prop) (b : Nat) (w : World) (k : Nat) : Prop := k = b ∨ (C k ∧ ∃ cur, w.heap[k]? = some (.cells cur 55 (0, 0)))
theorem ftrans {C : Nat → Prop} {b : Nat} {w w1 w2 : World} (h : Fr (Ft C b w) w w1) (k : Fr (Ft C b w1) w1 w2) : Fr (Ft C b w) w w2 := by
  refine h.trans k (fun i hi => ?_)
  by_cases hlt : i < w.heap.size
  · left
    rcases hi with rfl | ⟨hc, cur, e⟩
    · exact .inl rfl
    · refine Classical.byContradiction fun hn => hn (.inr ⟨hc, cur, ?_⟩)
      rw [← h.block i hlt hn]
      exact e
  · right; omega
theorem Ft.box {C : Nat → Prop} {b o : Nat} {w : World} {cs : Array Value} {t : TypeId} (h : Bx w o cs t) (ht : t ≠ 55) (ho : o ≠ b) : ¬ Ft C b w o := by
  rintro (rfl | ⟨-, cur, e⟩)
  · exact ho rfl
  · unfold Bx at h
    rw [h] at e
    simp only [Option.some.injEq, Obj.cells.injEq] at e
    exact ht e.2.1
theorem Bx.ft {C : Nat → Prop} {b o : Nat} {w w' : World} {cs : Array Value} {t : TypeId} (h : Bx w o cs t) (hf : Fr (Ft C b w) w w') (ht : t ≠ 55) (ho : o ≠ b) : Bx w' o cs t := h.fr hf (Ft.box h ht ho)
theorem Bg.below {C : Nat → Prop} {w w' : World} {b : Nat} {L : List (Int × Int)} {p : Int} (h : Bg C w b L p) (hb : Below w.heap.size w w') : Bg C w' b L p := by
  obtain ⟨ao, cap, h1, h2, h3⟩ := h
  exact ⟨ao, cap, h1.bel hb, own_below h2 hb, h3⟩
theorem Bg.lt {C : Nat → Prop} {w : World} {b : Nat} {L : List (Int × Int)} {p : Int} (h : Bg C w b L p) : b < w.heap.size := by
  obtain ⟨ao, cap, h1, h2, h3⟩ := h
  exact h1.lt
/-- A bag stays where neither its block nor a row of things turns. -/
theorem Bg.fr {C Q : Nat → Prop} {w w' : World} {b : Nat} {L : List (Int × Int)} {p : Int} (h : Bg C w b L p) (hf : Fr Q w w') (hb : ¬ Q b) (hq : ∀ k cur, Q k → w.heap[k]? ≠ some (.cells cur 55 (0, 0))) : Bg C w' b L p := by
  obtain ⟨ao, cap, h1, h2, h3⟩ := h
  refine ⟨ao, cap, h1.fr hf hb, own_fr h2 hf (fun k hk hQ => ?_), h3⟩
  rcases h2.2 with ⟨e, -⟩ | ⟨g, c, cur, e, -, hg, -⟩
  · rw [e] at hk; simp [Value.ownBlock] at hk
  · rw [e] at hk
    simp only [Value.ownBlock, Option.some.injEq] at hk
    subst hk
    exact hq _ _ hQ hg
theorem Bg.mono {C D : Nat → Prop} {w : World} {b : Nat} {L : List (Int × Int)} {p : Int} (h : Bg C w b L p) (hi : ∀ k, C k → D k) : Bg D w b L p := by
  obtain ⟨ao, cap, h1, h2, h3⟩ := h
  exact ⟨ao, cap, h1, h2, fun k hk => hi k (h3 k hk)⟩
theorem Bg.new (C : Nat → Prop) (w : World) : Bg C (w.alloc (.cells #[.slice none 0 0, .int .i64 0] 26)) w.heap.size [] 0 :=
  ⟨none, 0, Bx.new w _ _, World.ownsRow_nil _ _ _ _, fun k hk => by simp [Value.ownBlock] at hk⟩

/-- Things with their numbers. -/
def num (p : Int) : List Int → List (Int × Int)
  | [] => []
  | x :: r => (p, x) :: num (p + 1) r
theorem num_len (l : List Int) : ∀ p, (num p l).length = l.length := by
  induction l with
  | nil => intro p; rfl
  | cons x r ih => intro p; simp [num, ih]
theorem num_snoc (x : Int) (l : List Int) : ∀ p, num p (l ++ [x]) = num p l ++ [(p + (l.length : Int), x)] := by
  induction l with
  | nil => intro p; simp [num]
  | cons y r ih =>
    intro p
    simp only [List.cons_append, num, ih, List.length_cons]
    congr 3
    simp; omega
theorem num_snd (l : List Int) : ∀ p, (num p l).map Prod.snd = l := by
  induction l with
  | nil => intro p; rfl
  | cons x r ih => intro p; simp [num, ih]

theorem len_any {C : Nat → Prop} {w : World} {b : Nat} {L : List (Int × Int)} {p : Int} (h : Bg C w b L p) : Calls Try.prog 22 #[.pointer (some ⟨b, 0, none⟩)] w fun e w' => e = .returned (.int .i64 (L.length : Int)) ∧ w' = w := by
  obtain ⟨ao, cap, h1, h2, h3⟩ := h
  have c0 := h1.cell 0 _ rfl
  clear h1 h2 h3
  go_enter Try.func22, Try.ntmps22
  go_wp2
  go_ret
  exact ⟨rfl, rfl⟩
theorem len_nil (w : World) : Calls Try.prog 22 #[.pointer none] w fun e w' => e = .returned (.int .i64 0) ∧ w' = w := by
  go_enter Try.func22, Try.ntmps22
  go_wp2
  go_ret
  exact ⟨rfl, rfl⟩

/-- What Get answers. -/
def getV (l : List Int) (i : Int) : Value := if 0 ≤ i ∧ i < l.length then .tuple #[(.int .i64 (l.getD i.toNat 0)), .bool true] else .tuple #[(.int .i64 0), .bool false]
theorem getV_in {l : List Int} {k : Nat} {x : Int} (h : l[k]? = some x) : getV l (k : Int) = .tuple #[(.int .i64 x), .bool true] := by
  have hk := lt_of h
  unfold getV
  rw [if_pos ⟨by omega, by omega⟩]
  simp [List.getD, h]
theorem getV_out {l : List Int} {i : Int} (h : i < 0 ∨ (l.length : Int) ≤ i) : getV l i = .tuple #[(.int .i64 0), .bool false] := by
  unfold getV
  rw [if_neg (by omega)]

theorem get_out {C : Nat → Prop} {w : World} {b : Nat} {L : List (Int × Int)} {p : Int} (h : Bg C w b L p) (i : Int) (hi : i < 0 ∨ (L.length : Int) ≤ i) : Calls Try.prog 18 #[.pointer (some ⟨b, 0, none⟩), .int .i64 i] w fun e w' => e = .returned (.tuple #[(.int .i64 0), .bool false]) ∧ w' = w := by
  by_cases h0 : i < 0
  · clear hi
    go_enter Try.func18, Try.ntmps18
    go_wp2_with (go_at_call 22; refine (len_any h).mono ?_; rintro e w1 ⟨rfl, rfl⟩)
    go_ret2
    exact ⟨rfl, rfl⟩
  · have h1 : (L.length : Int) ≤ i := by omega
    clear hi
    go_enter Try.func18, Try.ntmps18
    go_wp2_with (go_at_call 22; refine (len_any h).mono ?_; rintro e w1 ⟨rfl, rfl⟩)
    go_ret2
    exact ⟨rfl, rfl⟩
theorem get_nil (w : World) (i : Int) : Calls Try.prog 18 #[.pointer none, .int .i64 i] w fun e w' => e = .returned (.tuple #[(.int .i64 0), .bool false]) ∧ w' = w := by
  by_cases h0 : i < 0
  · go_enter Try.func18, Try.ntmps18
    go_wp2_with (go_at_call 22; refine (len_nil _).mono ?_; rintro e w1 ⟨rfl, rfl⟩)
    go_ret2
    exact ⟨rfl, rfl⟩
  · have h1 : 0 ≤ i := by omega
    go_enter Try.func18, Try.ntmps18
    go_wp2_with (go_at_call 22; refine (len_nil _).mono ?_; rintro e w1 ⟨rfl, rfl⟩)
    go_ret2
    exact ⟨rfl, rfl⟩
theorem get_in {C : Nat → Prop} {w : World} {b : Nat} {L : List (Int × Int)} {p : Int} (h : Bg C w b L p) (k : Nat) (x : Int × Int) (hx : L[k]? = some x) : Calls Try.prog 18 #[.pointer (some ⟨b, 0, none⟩), .int .i64 (k : Int)] w fun e w' => e = .returned (.tuple #[(.int .i64 x.2), .bool true]) ∧ w' = w := by
  have hl := len_any h
  obtain ⟨ao, cap, h1, h2, h3⟩ := h
  have hk := lt_of hx
  have c0 := h1.cell 0 _ rfl
  have hr := RowS.own iC_len h2
  obtain ⟨g, off, rfl, hc⟩ := hr (by omega)
  have c1 : w.cell? ⟨g, off + k * 2 + 1, none⟩ = some (.int .i64 x.2) := hc k x hx 1 _ rfl
  have hcl := own_le h2
  clear h1 h2 h3 hr hc
  have h1 : (k : Int) < (L.length : Int) := by omega
  have h2 : ¬ (k : Int) < 0 := by omega
  go_enter Try.func18, Try.ntmps18
  go_wp2_with (go_at_call 22; refine hl.mono ?_; rintro e w1 ⟨rfl, rfl⟩)
  go_ret2
  exact ⟨rfl, rfl⟩
end Go.Proofs.Yteaempemdolcjaa.Na
