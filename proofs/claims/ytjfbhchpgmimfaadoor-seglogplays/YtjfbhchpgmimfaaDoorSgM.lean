/-
  The contracts of Records and of the law's 'all'.
-/
import Derived.Test.YtjfbhchpgmimfaaDoorSgL
namespace Go.Proofs.YtjfbhchpgmimfaaDoor.Sm
open Go.RowKit Go.Shelf Kt Cs Cf Cg Ck Cv Ca Dk Dp Da Db Dc Dd De Sq Sr Sa Sb Sc Se Sf Sh Si Sj Sk Sl Pl
set_option linter.unusedVariables false
set_option maxRecDepth 20000

/-- The segments that are told. -/
def es (h : H) : List Sg := if h.dn.isSome then [] else h.segs
theorem eql_func {P : Program} (w : World) (t : TypeId) (ps rs : Array TypeId) (b : Bool) (f : Fn) (x y : Array Value) (h : P.underlying t = some (.func ps rs b)) : (binOp .eql t (.func f x y) .nilFunc).run P w = .ok (.bool false) w := by
  have h1 : ∀ d, (Op.equalIn (d + 1) t (.func f x y) .nilFunc).run P w = .ok false w := fun d => by simp [Op.equalIn, run_underlying h]
  have h2 : (Op.equal t (.func f x y) .nilFunc).run P w = .ok false w := h1 9999
  simp only [binOp]
  simp [h2]

theorem ol_weak {lo lo' : Nat} {W : World} {v : Value} {l : List Bx} (h : Ol lo W v l) (hl : lo' ≤ lo) : Ol lo' W v l := by
  refine ⟨⟨h.own.1, ?_⟩, fun x hx => ⟨(h.ok x hx).1, fun b off e h0 => ⟨Nat.le_trans hl ((h.ok x hx).2 b off e h0).1, ((h.ok x hx).2 b off e h0).2⟩⟩⟩
  rcases h.own.2 with h1 | ⟨g, cap, cur, rfl, e2, e3⟩
  · exact .inl h1
  · exact .inr ⟨g, cap, cur, rfl, Nat.le_trans hl e2, e3⟩
section
variable {w : World} {F : Nat → Prop} {B : Nat} {h : H}
theorem read_any (hl : Lg w F B h) (hp : 1 ≤ h.per) (hn : h.segs.length ≤ 256) :
    Calls Tryd.prog 70 #[.pointer (some ⟨B, 0, none⟩)] w fun e w' => ∃ v l, e = .returned v ∧ Nb w w' v l ∧ l.map (·.bs) = (es h).map (fun s => fcat (bod s)) := by
  cases hd : h.dn with
  | none =>
    have : es h = h.segs := by simp [es, hd]
    rw [this]
    exact read_up hl hp hn hd
  | some p =>
    have : es h = [] := by simp [es, hd]
    rw [this]
    refine (read_down hl hp hd).mono ?_
    rintro e w' ⟨rfl, rfl⟩
    exact ⟨_, [], rfl, ⟨by simpa [Bv] using World.ownsRow_nil w' w'.heap.size 30 1, fun x hx => by simp at hx, Below.refl _ _⟩, rfl⟩

set_option maxHeartbeats 1000000 in
theorem records_any (hl : Lg w F B h) (hp : 1 ≤ h.per) (hn : h.segs.length ≤ 256) :
    Calls Tryd.prog 43 #[.pointer (some ⟨B, 0, none⟩)] w fun e w' => ∃ Bb Ba ar n cr l, e = .returned (.func (.func 71) #[] #[.pointer (some ⟨Bb, 0, none⟩), .pointer (some ⟨Ba, 0, none⟩)]) ∧
      w'.cell? ⟨Bb, 0, none⟩ = some (.int .i64 (nb h : Nat)) ∧ w'.cell? ⟨Ba, 0, none⟩ = some (.slice ar n cr) ∧ l.length = n ∧ Nb w w' (.slice ar n cr) l ∧ l.map (·.bs) = (es h).map (fun s => fcat (bod s)) := by
  have HL := mkH hl
  have hb := base_any hl hp
  generalize nb h = ba at hb ⊢
  have HB := mkH hb
  clear hl hb
  go_enter Tryd.func43, Tryd.ntmps43
  go_wp2_with fail
  refine HB.out.mono ?_
  rintro e w1 ⟨rfl, hw⟩
  have hw2 := hw.symm
  subst hw2
  clear hw
  go_wp2_with fail
  refine (read_any HL.out hp hn).mono ?_
  rintro e w2 ⟨v, l, rfl, hnb, hbs⟩
  obtain ⟨ar, cr, rfl⟩ := own_form hnb.own
  have HNB := mkH hnb
  have HBS := mkH hbs
  clear hnb hbs
  go_wp2
  go_ret
  refine ⟨_, _, ar, l.length, cr, l, rfl, ?_, ?_, rfl, ?_, HBS.out⟩
  · have := Cw.cell_new_at w2 #[.int .i64 (ba : Int)] 3 0 _ rfl
    exact cell_alloc_own _ this
  · have := Cw.cell_new_at (w2.alloc (.cells #[.int .i64 (ba : Int)] 3)) #[.slice ar l.length cr] 38 0 _ rfl
    rw [World.size_alloc] at this
    exact this
  · have hb : Below w2.heap.size w2 ((w2.alloc (.cells #[.int .i64 (ba : Int)] 3)).alloc (.cells #[.slice ar l.length cr] 38)) := ((Below.refl _ _).alloc (Nat.le_refl _) _).alloc (by simp) _
    exact ⟨own_below HNB.out.own hb, fun x hx => ⟨⟨(HNB.out.ok x hx).1.1.below hb, (HNB.out.ok x hx).1.2⟩, (HNB.out.ok x hx).2⟩, HNB.out.below.trans (hb.mono HNB.out.below.size)⟩

theorem es_fits {N : Nat} (hi : Inv N h) : ∀ s ∈ es h, Fits s := fun s hs => by
  unfold es at hs
  split at hs
  · simp at hs
  · exact hi.fits s hs
theorem es_len {N : Nat} (hi : Inv N h) : nb h + (all (es h)).length ≤ N := by
  unfold es nb
  split
  · simp [all]
  · have := top_all0 hi.ch; have := hi.top; omega

set_option maxHeartbeats 1000000 in
theorem all_any {N : Nat} (hl : Lg w F B h) (hi : Inv N h) (hN : N ≤ 1000000) (hT : Tb w) :
    Calls Tryd.prog 15 #[.pointer (some ⟨B, 0, none⟩)] w fun e w' => ∃ a c l, e = .returned (.tuple #[.slice a (all (es h)).length c, .bool true]) ∧ Ol w.heap.size w' (.slice a (all (es h)).length c) l ∧ l.map (·.bs) = all (es h) ∧ Below w.heap.size w w' := by
  have nf := fun (W : World) (x y : Array Value) => eql_func (P := Tryd.prog) W 76 _ _ _ (.func 71) x y Tryd.underlying76
  have HL := mkH hl
  have HI := mkH hi
  have HT := mkH hT
  have hp := hi.p1
  have hn := hi.n
  have hsz := hT.size
  clear hl hi hT
  have hb0 : Below w.heap.size w (((w.alloc (.cells #[.pointer (some ⟨B, 0, none⟩)] 23)).alloc (.cells #[.slice none 0 0] 38)).alloc (.cells #[.bool true] 4)) := (((Below.refl _ w).alloc (Nat.le_refl _) _).alloc (by simp) _).alloc (by simp; omega) _
  obtain ⟨W0, hW0⟩ : ∃ W0, (((w.alloc (.cells #[.pointer (some ⟨B, 0, none⟩)] 23)).alloc (.cells #[.slice none 0 0] 38)).alloc (.cells #[.bool true] 4)) = W0 := ⟨_, rfl⟩
  have hl0 : W0.heap[w.heap.size]? = some (.cells #[.pointer (some ⟨B, 0, none⟩)] 23) := by
    rw [← hW0]; exact (Below.heap_alloc _ _ _ (by simp; omega)).trans ((Below.heap_alloc _ _ _ (by simp)).trans (heap_alloc_new _ _))
  have ho0 : W0.heap[w.heap.size + 1]? = some (.cells #[.slice none 0 0] 38) := by
    rw [← hW0]
    refine (Below.heap_alloc _ _ _ (by simp)).trans ?_
    have := heap_alloc_new (w.alloc (.cells #[.pointer (some ⟨B, 0, none⟩)] 23)) (.cells #[.slice none 0 0] 38)
    rwa [World.size_alloc] at this
  have hr0 : W0.heap[w.heap.size + 1 + 1]? = some (.cells #[.bool true] 4) := by
    rw [← hW0]
    have := heap_alloc_new ((w.alloc (.cells #[.pointer (some ⟨B, 0, none⟩)] 23)).alloc (.cells #[.slice none 0 0] 38)) (.cells #[.bool true] 4)
    rw [World.size_alloc, World.size_alloc] at this
    exact this
  have hs0 : W0.heap.size = w.heap.size + 3 := by rw [← hW0]; simp
  rw [hW0] at hb0
  have c1 : W0.cell? ⟨w.heap.size, 0, none⟩ = some (.pointer (some ⟨B, 0, none⟩)) := by rw [cell_of_row _ _ _ _ _ _ hl0]; rfl
  go_enter Tryd.func15, Tryd.ntmps15
  go_wp2_with fail
  refine (records_any (HL.out.below hb0) hp hn).mono ?_
  rintro e W1 ⟨Bb, Ba, ar, n, cr, l, rfl, cb, ca, hln, hnb, hbs⟩
  have hb1 := hnb.below
  have hb01 : Below w.heap.size w W1 := hb0.trans (hb1.mono hb0.size)
  have hn2 : n ≤ 256 := by
    have := congrArg List.length hbs
    simp only [List.length_map] at this
    rw [← hln, this]
    unfold es
    split
    · simp
    · exact hn
  have hll := HL.out.below hb01
  have hR : ∀ k, F k → k < w.heap.size := HL.out.lt
  have hrec := records1_any W1 (w.heap.size + 1 + 1) w.heap.size (w.heap.size + 1) Bb Ba (nb h) n ar cr l (es h) (HT.out.below hb01 hsz) hll hp rfl (Nat.le_trans (es_len HI.out) hN)
    ((hb1.block _ (by omega)).trans hr0) ((hb1.block _ (by omega)).trans hl0) ((hb1.block _ (by omega)).trans ho0) (by omega) (by omega) (by omega) (by omega) (by omega) (fun x => by have := hR _ x; omega) (fun x => by have := hR _ x; omega)
    cb ca hln hn2 (by
      have := hnb.own
      rw [hln] at this
      refine ⟨this.1, ?_⟩
      rcases this.2 with x | ⟨g, c', cur, e1, e2, e3⟩
      · exact .inl x
      · exact .inr ⟨g, c', cur, e1, Nat.zero_le _, e3⟩)
    (fun g hg => by have := (own_blk hnb.own hg).2; omega)
    (fun x hx => ⟨(hnb.ok x hx).1.1, fun b off e h0 => by have := ((hnb.ok x hx).2 b off e h0).1; omega⟩) hbs (es_fits HI.out)
  have HREC := mkH hrec
  have HB01 := mkH hb01
  have hs1 := hb1.size
  clear hrec hnb hbs cb ca hll hln hb1 hb01 hl0 ho0 hr0 c1
  obtain ⟨KK, hKK⟩ : ∃ KK, (all (es h)).length = KK := ⟨_, rfl⟩
  rw [hKK] at HREC
  have HKK := mkH hKK
  clear hKK
  go_wp2_with fail
  refine HREC.out.mono ?_
  rintro e W3 ⟨⟨v, rfl⟩, a, c, l2, hr3, ho3, hol3, hrecs, hfr3⟩
  have c5 : W3.cell? ⟨w.heap.size + 1 + 1, 0, none⟩ = some (.bool true) := by rw [cell_of_row _ _ _ _ _ _ hr3]; rfl
  have c4 : W3.cell? ⟨w.heap.size + 1, 0, none⟩ = some (.slice a KK c) := by rw [cell_of_row _ _ _ _ _ _ ho3]; rfl
  have HO3 := mkH hol3
  have HRE := mkH hrecs
  have HF3 := mkH hfr3
  clear hol3 hrecs hfr3 hr3 ho3
  go_wp2_with fail
  go_quiet (fail)
  go_wp2
  go_ret2
  have hb3 : Below w.heap.size w W3 := HB01.out.trans (HF3.out.below (fun k hk => by rcases hk with x | x <;> omega) HB01.out.size)
  refine ⟨a, c, l2, by rw [HKK.out]; rfl, ?_, HRE.out, below_drewN hb3 _⟩
  rw [HKK.out]
  exact ol_weak (HO3.out.below (below_drewN (Below.refl _ _) nq)) (by omega)
end
end Go.Proofs.YtjfbhchpgmimfaaDoor.Sm
