/-
  What the law's 'all' collects: the function that is handed on.
-/
import Derived.Test.YtjfbhchpgmimfaaDoorSgI
import Derived.BigQuiet
namespace Go.Proofs.YtjfbhchpgmimfaaDoor.Sk
open Go.RowKit Kt Cs Cf Cv Dk Dp Da Db Dc Dd De Sq Sr Sa Sb Sc Se Sf Pl
set_option linter.unusedVariables false
set_option maxRecDepth 20000

theorem row_fr {w w' : World} {Q : Nat → Prop} {ao : Option Addr} {bs : List UInt8} (h : Row w ao bs) (hf : Fr Q w w') (hq : 0 < bs.length → ∀ b off, ao = some ⟨b, off, none⟩ → ¬ Q b) : Row w' ao bs := fun h0 => by
  obtain ⟨b, off, e, hc⟩ := h h0
  refine ⟨b, off, e, fun i hi => ?_⟩
  have hl := World.block_lt_of_cell? w _ (hc i hi)
  rw [← hc i hi]
  exact World.cell?_of_block (w := w) (hf.heap (k := b) hl (hq h0 b off e))
/-- A row of slices of bytes, of the loop's own, from lo on. -/
structure Ol (lo : Nat) (W : World) (v : Value) (l : List Bx) : Prop where
  own : W.ownsRow lo 30 1 v l.length (Bv l)
  ok : ∀ x ∈ l, Row W x.ao x.bs ∧ ∀ b off, x.ao = some ⟨b, off, none⟩ → 0 < x.bs.length → lo ≤ b ∧ v.ownBlock ≠ some b
theorem bok_lt {W : World} {x : Bx} (hx : Row W x.ao x.bs) : ∀ b off, x.ao = some ⟨b, off, none⟩ → 0 < x.bs.length → b < W.heap.size := fun b off e h0 => by
  obtain ⟨b', off', e', hc⟩ := hx h0
  rw [e] at e'
  simp only [Option.some.injEq, Addr.mk.injEq] at e'
  obtain ⟨rfl, rfl, -⟩ := e'
  exact World.block_lt_of_cell? W _ (hc 0 h0)
theorem Ol.fr {lo : Nat} {W W' : World} {v : Value} {l : List Bx} {Q : Nat → Prop} (h : Ol lo W v l) (hf : Fr Q W W') (hq : ∀ k, Q k → k < lo) : Ol lo W' v l :=
  ⟨own_keeps h.own (fun g hg => hf.heap (own_blk h.own hg).1 (fun x => by have := hq g x; have := (own_blk h.own hg).2; omega)),
   fun x hx => ⟨row_fr (h.ok x hx).1 hf (fun h0 b off e y => by have := hq b y; have := ((h.ok x hx).2 b off e h0).1; omega), (h.ok x hx).2⟩⟩
theorem Ol.below {lo : Nat} {W W' : World} {v : Value} {l : List Bx} (h : Ol lo W v l) (hb : Below W.heap.size W W') : Ol lo W' v l := h.fr (Q := fun _ => False) (Fr.ofBelow hb) (fun _ x => x.elim)
theorem Ol.nil (lo : Nat) (W : World) : Ol lo W (.slice none 0 0) [] := ⟨by simpa [Bv] using World.ownsRow_nil W lo 30 1, fun x hx => by simp at hx⟩
/-- One slice more is appended: it was laid since lo, and lies apart from the row. -/
theorem Ol.snoc {lo : Nat} {W W' : World} {a : Option Addr} {k c : Nat} {v' : Value} {l : List Bx} {x : Bx} (h : Ol lo W (.slice a k c) l) (hx : Row W x.ao x.bs) (hlo : ∀ b off, x.ao = some ⟨b, off, none⟩ → 0 < x.bs.length → lo ≤ b ∧ (Value.slice a k c).ownBlock ≠ some b)
    (hown : W'.ownsRow lo 30 1 v' (l.length + 1) (Bv l ++ [.slice x.ao x.bs.length x.cap])) (hf : Fr (fun q => (Value.slice a k c).ownBlock = some q) W W') (hb : v'.ownBlock = (Value.slice a k c).ownBlock ∨ ∃ q, v'.ownBlock = some q ∧ W.heap.size ≤ q) : Ol lo W' v' (l ++ [x]) := by
  have hnew : ∀ y : Bx, Row W y.ao y.bs → (∀ b off, y.ao = some ⟨b, off, none⟩ → 0 < y.bs.length → lo ≤ b ∧ (Value.slice a k c).ownBlock ≠ some b) → Row W' y.ao y.bs ∧ ∀ b off, y.ao = some ⟨b, off, none⟩ → 0 < y.bs.length → lo ≤ b ∧ v'.ownBlock ≠ some b := fun y hy hl =>
    ⟨row_fr hy hf (fun h0 b off e => (hl b off e h0).2), fun b off e h0 => ⟨(hl b off e h0).1, fun hbb => by
      have hlt := bok_lt hy b off e h0
      rcases hb with z | ⟨q, z, hq⟩
      · rw [hbb] at z; exact (hl b off e h0).2 z.symm
      · rw [hbb] at z; cases z; omega⟩⟩
  refine ⟨by rw [Bv_snoc, List.length_append]; exact hown, fun y hy => ?_⟩
  rcases List.mem_append.1 hy with hy | hy
  · exact hnew y (h.ok y hy).1 (h.ok y hy).2
  · simp only [List.mem_singleton] at hy
    subst hy
    exact hnew y hx hlo

section
variable {F : Nat → Prop} {B : Nat} {h : H}
set_option maxHeartbeats 2000000 in
theorem all1_any (w : World) (Br Bl Bo lo k : Nat) (ba : Nat) (hl : Lg w F B h) (hp : 1 ≤ h.per) (hnb : nb h = ba) (hba : ba ≤ 1000000) (hk : k ≤ 1000000) (a : Option Addr) (c : Nat) (l : List Bx) (hlk : l.length = k)
    (hr : w.heap[Br]? = some (.cells #[.bool true] 4)) (hlb : w.heap[Bl]? = some (.cells #[.pointer (some ⟨B, 0, none⟩)] 23)) (ho : w.heap[Bo]? = some (.cells #[.slice a k c] 38)) (hne : Br ≠ Bo) (hnl : Br ≠ Bl) (hlr : Br < lo) (hlo : Bo < lo) (hll : lo ≤ w.heap.size)
    (hol : Ol lo w (.slice a k c) l) (x : Bx) (hx : Row w x.ao x.bs) (hxl : ∀ b off, x.ao = some ⟨b, off, none⟩ → 0 < x.bs.length → lo ≤ b ∧ (Value.slice a k c).ownBlock ≠ some b) :
    Calls Tryd.prog 44 #[.int .i64 ((ba + k : Nat) : Int), .slice x.ao x.bs.length x.cap, .pointer (some ⟨Br, 0, none⟩), .pointer (some ⟨Bl, 0, none⟩), .pointer (some ⟨Bo, 0, none⟩)] w fun e w' => e = .returned (.bool true) ∧
      ∃ a' c', w'.heap[Br]? = some (.cells #[.bool true] 4) ∧ w'.heap[Bo]? = some (.cells #[.slice a' (k + 1) c'] 38) ∧ Ol lo w' (.slice a' (k + 1) c') (l ++ [x]) ∧ Fr (fun q => q = Br ∨ q = Bo ∨ (Value.slice a k c).ownBlock = some q) w w' ∧
        ((Value.slice a' (k + 1) c').ownBlock = (Value.slice a k c).ownBlock ∨ ∃ q, (Value.slice a' (k + 1) c').ownBlock = some q ∧ w.heap.size ≤ q) := by
  have cr := cell_of_row w Br 0 _ _ _ hr
  have cl := cell_of_row w Bl 0 _ _ _ hlb
  have co := cell_of_row w Bo 0 _ _ _ ho
  have fr0 := frozen_of_row w Br 0 _ _ hr
  have fo0 := frozen_of_row w Bo 0 _ _ ho
  simp only [List.getElem?_toArray, List.getElem?_cons_zero] at cr cl co
  have HBA : Hid (∀ q, Calls Tryd.prog 19 #[.pointer (some ⟨B, 0, none⟩)] (w.drewN q) fun e w' => e = .returned (.int .i64 (ba : Int)) ∧ w' = w.drewN q) := fun q => by
    have := base_any (hl.below (below_drewN (Below.refl _ _) q)) hp
    rw [hnb] at this
    exact this
  have hset : Hid (∀ q, ((w.drewN q).setCell ⟨Br, 0, none⟩ (.bool true)).cell? ⟨Br, 0, none⟩ = some (.bool true) ∧ ((w.drewN q).setCell ⟨Br, 0, none⟩ (.bool true)).cell? ⟨Bl, 0, none⟩ = some (.pointer (some ⟨B, 0, none⟩)) ∧ ((w.drewN q).setCell ⟨Br, 0, none⟩ (.bool true)).cell? ⟨Bo, 0, none⟩ = some (.slice a k c)) := fun q =>
    ⟨World.cell?_setCell_same' (w.drewN q) _ _ (by show (w.cell? _).isSome = true; rw [cr]; rfl),
     (World.cell?_of_block (w := w.drewN q) (Below.heap_setCell _ _ _ _ (fun e => hnl e.symm))).trans cl,
     (World.cell?_of_block (w := w.drewN q) (Below.heap_setCell _ _ _ _ (fun e => hne e.symm))).trans co⟩
  have e1 : (ba : Int) + (k : Int) = ((ba + k : Nat) : Int) := by omega
  obtain ⟨s, hs⟩ : ∃ s, ba + k = s := ⟨_, rfl⟩
  rw [hs] at e1 ⊢
  have ewr : IntKind.i64.wrap (s : Int) = (s : Int) := wrap_fit s (by omega)
  have hsb : s ≤ 2000000 := by omega
  have HL := mkH hl
  have HR := mkH hr
  have HO := mkH ho
  have HOL := mkH hol
  have HX := mkH hx
  have HXL := mkH hxl
  have HLK := mkH hlk
  obtain ⟨xl, hxlen⟩ : ∃ xl, x.bs.length = xl := ⟨_, rfl⟩
  have HXN := mkH hxlen
  rw [hxlen]
  clear hl hr hlb ho hol hx hxl hs hlk hxlen
  have hmx : Tryd.prog.follows .mixedOrders = true := by kernel_rfl
  go_enter Tryd.func44, Tryd.ntmps44
  go_wp2_with fail
  go_region_held3 (fun W => W.cell? ⟨Br, 0, none⟩ = some (.bool true) ∧ W.cell? ⟨Bl, 0, none⟩ = some (.pointer (some ⟨B, 0, none⟩)) ∧ W.cell? ⟨Bo, 0, none⟩ = some (.slice a k c)) (first | exact ⟨cr, cl, co⟩ | exact hset.out _ | go_keep) (first
    | (go_at_call 19; refine (HBA.out _).mono ?_; rintro e w3 ⟨rfl, rfl⟩))
  have hfd : Fr (fun q => q = Br) w (w.drewN 1) := ⟨rfl, rfl, rfl, Nat.le_refl _, fun _ _ _ => rfl⟩
  have hrd : (w.drewN 1).heap[Br]? = some (.cells #[.bool true] 4 (0, 0)) := HR.out
  have hf1 : Fr (fun q => q = Br) w ((w.drewN 1).setCell ⟨Br, 0, none⟩ (.bool true)) := by
    refine hfd.trans (G := fun q => q = Br) ?_ (fun i hi => .inl hi)
    rw [setCell_eq_setRow (w.drewN 1) Br 0 _ _ (0, 0) _ hrd]
    exact (Fr.refl (fun k => k = Br) (w.drewN 1)).setRow (b := Br) (.inl rfl) _
  have hr1 : ((w.drewN 1).setCell ⟨Br, 0, none⟩ (.bool true)).heap[Br]? = some (.cells #[.bool true] 4 (0, 0)) := by
    rw [setCell_eq_setRow (w.drewN 1) Br 0 _ _ (0, 0) _ hrd]
    exact setRow_heap _ _ _ _ _ _ hrd
  obtain ⟨d1, d2, d3⟩ := hset.out 1
  generalize (w.drewN 1).setCell ⟨Br, 0, none⟩ (.bool true) = W1 at hf1 hr1 d1 d2 d3 ⊢
  have ho1 : W1.heap[Bo]? = some (.cells #[.slice a k c] 38 (0, 0)) := (hf1.heap (block_lt HO.out) (fun e => hne e.symm)).trans HO.out
  have hol1 := HOL.out.fr hf1 (fun k hk => by omega)
  have hx1 := row_fr HX.out hf1 (fun h0 b off e hb => by have := (HXL.out b off e h0).1; omega)
  have HR1 := mkH hr1
  have HO1 := mkH ho1
  have HOL1 := mkH hol1
  have HX1 := mkH hx1
  have HF1 := mkH hf1
  have HOW := mkH hol1.own
  rw [HLK.out] at HOW
  have hlo1 : lo ≤ W1.heap.size := Nat.le_trans hll hf1.size
  clear hfd hrd hf1 hr1 ho1 hol1 hx1 cr cl co fr0 fo0 hset HBA d1 d2
  go_wp2_with (at_builtin; refine (wpList_append_own_src_at _ rfl (.tmp 18) (.tmp 20) 38 38 rfl lo 30 (.slice none 0 0) 1 24 Tryd.underlying38 infoB rfl (by decide) _ _ _ rfl (own_below HOW.out ((Below.refl _ _).alloc (Nat.le_refl _) _)) _ 1 [.slice x.ao xl x.cap] rfl (src_val Tryd.underlying38 _ _ rfl) ?h63 ?hby ?hbs ?_))
  case h63 => unfold maxLen; omega
  case hby => omega
  case hbs => simp; omega
  intro v7 w7 hown7 hgrow7 hblk7
  obtain ⟨a7, c7, rfl⟩ := own_form hown7
  have hfr : Fr (fun q => (Value.slice a k c).ownBlock = some q) W1 w7 := ((Fr.refl _ _).alloc _).trans (fr_grown hgrow7) (fun i hi => .inl hi)
  have hgl : ∀ g, (Value.slice a k c).ownBlock = some g → lo ≤ g := fun g hg => (own_blk HOW.out hg).2
  have hb7 : (Value.slice a7 (k + 1) c7).ownBlock = (Value.slice a k c).ownBlock ∨ ∃ q, (Value.slice a7 (k + 1) c7).ownBlock = some q ∧ W1.heap.size ≤ q := by
    rcases hblk7 with y | y
    · exact .inl y
    · exact .inr ⟨_, y, by simp⟩
  have hol7 : Ol lo w7 (.slice a7 (k + 1) c7) (l ++ [x]) := Ol.snoc HOL1.out HX1.out HXL.out (by rw [HLK.out, HXN.out]; exact hown7) hfr hb7
  have hr7 : w7.heap[Br]? = some (.cells #[.bool true] 4 (0, 0)) := (hfr.heap (block_lt HR1.out) (fun e => by have := hgl _ e; omega)).trans HR1.out
  have ho7 : w7.heap[Bo]? = some (.cells #[.slice a k c] 38 (0, 0)) := (hfr.heap (block_lt HO1.out) (fun e => by have := hgl _ e; omega)).trans HO1.out
  have co7 : w7.cell? ⟨Bo, 0, none⟩ = some (.slice a k c) := by rw [cell_of_row _ _ _ _ _ _ ho7]; rfl
  have fo7 : w7.frozen? ⟨Bo, 0, none⟩ = false := frozen_of_row w7 Bo 0 _ _ ho7
  have HOL7 := mkH hol7
  have HR7 := mkH hr7
  have HO7 := mkH ho7
  have HB7 := mkH hb7
  have HF7 := mkH hfr
  clear hol7 hr7 ho7 hb7 hfr hown7 hgrow7 hblk7 d3 hgl
  go_wp2
  go_ret
  have hs8 := setCell_eq_setRow w7 Bo 0 _ _ (0, 0) (.slice a7 (k + 1) c7) HO7.out
  have hf8 : Fr (fun q => q = Bo) w7 (w7.setCell ⟨Bo, 0, none⟩ (.slice a7 (k + 1) c7)) := by
    rw [hs8]; exact (Fr.refl (fun k => k = Bo) w7).setRow (b := Bo) (.inl rfl) _
  refine ⟨rfl, a7, c7, (hf8.heap (block_lt HR7.out) hne).trans HR7.out, by rw [hs8]; exact setRow_heap _ _ _ _ _ _ HO7.out, HOL7.out.fr hf8 (fun k hk => by omega), ?_, ?_⟩
  · have q1 : Fr (fun q => q = Br ∨ q = Bo ∨ (Value.slice a k c).ownBlock = some q) w W1 := HF1.out.mono (fun k hk => .inl hk)
    have q2 := q1.trans HF7.out (fun i hi => .inl (.inr (.inr hi)))
    exact q2.trans hf8 (fun i hi => .inl (.inr (.inl hi)))
  · rcases HB7.out with y | ⟨q, y, hq⟩
    · exact .inl y
    · exact .inr ⟨q, y, Nat.le_trans HF1.out.size hq⟩
end
end Go.Proofs.YtjfbhchpgmimfaaDoor.Sk
