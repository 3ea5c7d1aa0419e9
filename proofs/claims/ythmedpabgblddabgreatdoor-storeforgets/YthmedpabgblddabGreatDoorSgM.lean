/-
  The contracts of Records and of the law's 'all'.
-/
import Derived.Test.YthmedpabgblddabGreatDoorSgL
namespace Go.Proofs.YthmedpabgblddabGreatDoor.Sm
open Go.RowKit Go.Shelf Kt Cs Cf Cg Ck Cv Ca Dk Dp Da Db Dc Dd De Sq Sr Sa Sb Sc Se Sf Sh Si Sj Sk Sl Pl
set_option linter.unusedVariables false
set_option maxRecDepth 20000

/-- The segments that are told. -/
def es (h : H) : List Sg := if h.dn.isSome then [] else h.segs
theorem eql_func {P : Program} (w : World) (t : TypeId) (ps rs : Array TypeId) (b : Bool) (f : Fn) (x y : Array Value) (h : P.underlying t = some (.func ps rs b)) : (binOp .eql t (.func f x y) .nilFunc).run P w = .ok (.bool false) w := by
  have h1 : ∀ d, (Op.equalIn (d + 1) t (.func f x y) .nilFunc).run P w = .ok false w := fun d => by simp [Op.equalIn, run_underlying h]
  have h2 : (Op.equal t (.func f x y) .nilFunc).run P w = .ok false w := h1 9999
  simp only [binOp]
  simp [h2]

theorem ol_weak {lo lo' : Nat} {W : World} {v : Value} {l : List Bx} (h : Ol lo W v l) (hl : lo' ≤ lo) : Ol lo' W v l := by
  refine ⟨⟨h.own.1, ?_⟩, fun x hx => ⟨(h.ok x hx).1, fun b off e h0 => ⟨Nat.le_trans hl ((h.ok x hx).2 b off e h0).1, ((h.ok x hx).2 b off e h0).2⟩⟩⟩
  rcases h.own.2 with h1 | ⟨g, cap, cur, rfl, e2, e3⟩
  · exact .inl h1
  · exact .inr ⟨g, cap, cur, rfl, Nat.le_trans hl e2, e3⟩
section
variable {w : World} {F : Nat → Prop} {B : Nat} {h : H}
theorem read_any (hl : Lg w F B h) (hp : 1 ≤ h.per) (hn : h.segs.length ≤ 256) :
    Calls Tryz.prog 58 #[.pointer (some ⟨B, 0, none⟩)] w fun e w' => ∃ v l, e = .returned v ∧ Nb w w' v l ∧ l.map (·.bs) = (es h).map (fun s => fcat (bod s)) := by
  cases hd : h.dn with
  | none =>
    have : es h = h.segs := by simp [es, hd]
    rw [this]
    exact read_up hl hp hn hd
  | some p =>
    have : es h = [] := by simp [es, hd]
    rw [this]
    refine (read_down hl hp hd).mono ?_
    rintro e w' ⟨rfl, rfl⟩
    exact ⟨_, [], rfl, ⟨by simpa [Bv] using World.ownsRow_nil w' w'.heap.size 30 1, fun x hx => by simp at hx, Below.refl _ _⟩, rfl⟩

set_option maxHeartbeats 1000000 in
theorem records_any (hl : Lg w F B h) (hp : 1 ≤ h.per) (hn : h.segs.length ≤ 256) :
    Calls Tryz.prog 32 #[.pointer (some ⟨B, 0, none⟩)] w fun e w' => ∃ Bb Ba ar n cr l, e = .returned (.func (.func 59) #[] #[.pointer (some ⟨Bb, 0, none⟩), .pointer (some ⟨Ba, 0, none⟩)]) ∧
      w'.cell? ⟨Bb, 0, none⟩ = some (.int .i64 (nb h : Nat)) ∧ w'.cell? ⟨Ba, 0, none⟩ = some (.slice ar n cr) ∧ l.length = n ∧ Nb w w' (.slice ar n cr) l ∧ l.map (·.bs) = (es h).map (fun s => fcat (bod s)) := by
  have HL := mkH hl
  have hb := base_any hl hp
  generalize nb h = ba at hb ⊢
  have HB := mkH hb
  clear hl hb
  go_enter Tryz.func32, Tryz.ntmps32
  go_wp2_with fail
  refine HB.out.mono ?_
  rintro e w1 ⟨rfl, hw⟩
  have hw2 := hw.symm
  subst hw2
  clear hw
  go_wp2_with fail
  refine (read_any HL.out hp hn).mono ?_
  rintro e w2 ⟨v, l, rfl, hnb, hbs⟩
  obtain ⟨ar, cr, rfl⟩ := own_form hnb.own
  have HNB := mkH hnb
  have HBS := mkH hbs
  clear hnb hbs
  go_wp2
  go_ret
  refine ⟨_, _, ar, l.length, cr, l, rfl, ?_, ?_, rfl, ?_, HBS.out⟩
  · have := Cw.cell_new_at w2 #[.int .i64 (ba : Int)] 3 0 _ rfl
    exact cell_alloc_own _ this
  · have := Cw.cell_new_at (w2.alloc (.cells #[.int .i64 (ba : Int)] 3)) #[.slice ar l.length cr] 85 0 _ rfl
    rw [World.size_alloc] at this
    exact this
  · have hb : Below w2.heap.size w2 ((w2.alloc (.cells #[.int .i64 (ba : Int)] 3)).alloc (.cells #[.slice ar l.length cr] 85)) := ((Below.refl _ _).alloc (Nat.le_refl _) _).alloc (by simp) _
    exact ⟨own_below HNB.out.own hb, fun x hx => ⟨⟨(HNB.out.ok x hx).1.1.below hb, (HNB.out.ok x hx).1.2⟩, (HNB.out.ok x hx).2⟩, HNB.out.below.trans (hb.mono HNB.out.below.size)⟩

theorem es_fits {N : Nat} (hi : Inv N h) : ∀ s ∈ es h, Fits s := fun s hs => by
  unfold es at hs
  split at hs
  · simp at hs
  · exact hi.fits s hs
theorem es_len {N : Nat} (hi : Inv N h) : nb h + (all (es h)).length ≤ N := by
  unfold es nb
  split
  · simp [all]
  · have := top_all0 hi.ch; have := hi.top; omega

end
end Go.Proofs.YthmedpabgblddabGreatDoor.Sm
