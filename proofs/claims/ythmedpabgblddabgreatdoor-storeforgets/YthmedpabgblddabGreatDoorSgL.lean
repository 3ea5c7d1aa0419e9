/-
  Records' iterator, over the law's collecting function.
-/
import Derived.Test.YthmedpabgblddabGreatDoorSgK
import Derived.WalkMore
namespace Go.Proofs.YthmedpabgblddabGreatDoor.Sl
open Go.RowKit Go.Shelf Kt Cs Cf Cg Ck Cv Ca Dk Dp Da Db Dc Dd De Sq Sr Sa Sb Sc Se Sf Sh Si Sj Sk Pl
set_option linter.unusedVariables false
attribute [local go_sem] Oper.semAt_some

/-- Marks of loops over functions that have ended. -/
def dfr (D : Nat) : Deferred := { target := .collected D, args := #[] }
def Mk (Ds : List Nat) (W : World) : Prop := Ds.Nodup ∧ ∀ D ∈ Ds, W.heap[D]? = some (.deferred (some []))
theorem leaves_marks {F : Fence} {n : Nat} {P : Program} {fn : Func} {tmps : Array Value} {R : Ending → World → Prop} : ∀ (Ds : List Nat) (W : World), Mk Ds W →
    (∀ W', Fr (fun k => k ∈ Ds) W W' → LeavesInM F n P fn tmps R [] .returning W') → LeavesInM F n P fn tmps R (Ds.map dfr) .returning W
  | [], W, _, h => h W (Fr.refl _ _)
  | D :: Ds, W, hm, h => by
    refine ⟨by simp, .inl ⟨D, _, rfl, run_takeDeferred (hm.2 D (by simp)), ?_⟩⟩
    have hn := List.nodup_cons.1 hm.1
    refine leaves_marks Ds _ ⟨hn.2, fun E hE => (World.putObj_heap_other (fun e => by subst e; exact hn.1 hE)).trans (hm.2 E (by simp [hE]))⟩ (fun W' hf => h W' ?_)
    exact ((fr_put W D (.deferred none)).mono (fun k hk => by simp [hk])).trans (hf.mono (fun k hk => by simp [hk])) (fun i hi => .inl hi)

set_option maxHeartbeats 1000000 in
set_option maxRecDepth 20000 in
theorem all_any2 (w : World) (ao : Option Addr) (cap : Nat) (bs : List UInt8) (hr : Row w ao bs) (hl : bs.length ≤ 1000000) :
    Calls Tryz.prog 60 #[.slice ao bs.length cap] w fun e W' => ∃ Bx a2 c2, e = .returned (.func (.func 77) #[] #[.pointer (some ⟨Bx, 0, none⟩)]) ∧ w.heap.size ≤ Bx ∧ W'.heap[Bx]? = some (.cells #[.slice a2 bs.length c2] 30) ∧ Row W' a2 bs ∧ bs.length ≤ c2 ∧ c2 ≤ 9223372036854775807 ∧ (∀ b off, a2 = some ⟨b, off, none⟩ → w.heap.size ≤ b) ∧ Below w.heap.size w W' := by
  go_enter Tryz.func60, Tryz.ntmps60
  go_wp2_with fail
  refine (Cw.clone_any w ao cap bs hr (by omega)).mono ?_
  rintro e w1 ⟨v1, rfl, hown1, hb1⟩
  obtain ⟨a2, c2, rfl, -, hc2, hr2⟩ := own_row hown1
  have hcm := own_cap hown1
  have hlo : ∀ b off, a2 = some ⟨b, off, none⟩ → w.heap.size ≤ b := fun b off e => by subst e; exact (own_blk hown1 rfl).2
  clear hown1
  go_wp2
  go_ret
  exact ⟨_, a2, c2, rfl, hb1.size, heap_alloc_new _ _, hr2.below ((Below.refl _ w1).alloc (Nat.le_refl _) _), hc2, hcm, hlo, hb1.alloc hb1.size _⟩

/-- What lies while records are collected. -/
structure Rt (w : World) (yv : Value) (Br Bo ba : Nat) (Ds : List Nat) (pre : List (List UInt8)) (a : Option Addr) (c : Nat) (l : List Bx) (W : World) : Prop where
  fr : Fr (fun q => q = Br ∨ q = Bo) w W
  yb : W.heap[w.heap.size]? = some (.cells #[yv] 87 (0, 0))
  num : W.heap[w.heap.size + 1]? = some (.cells #[.int .i64 ((ba + pre.length : Nat) : Int)] 3 (0, 0))
  right : W.heap[Br]? = some (.cells #[.bool true] 4 (0, 0))
  out : W.heap[Bo]? = some (.cells #[.slice a pre.length c] 85 (0, 0))
  ol : Ol (w.heap.size + 2) W (.slice a pre.length c) l
  recs : l.map (·.bs) = pre
  mks : Mk Ds W
  mlo : ∀ D ∈ Ds, w.heap.size ≤ D
theorem ol_cells {lo : Nat} {W W' : World} {v : Value} {l : List Bx} (h : Ol lo W v l) (hc : ∀ (k : Nat) (o : Obj), W.heap[k]? = some o → o.isCells = true → W'.heap[k]? = some o) : Ol lo W' v l := by
  refine ⟨⟨h.own.1, ?_⟩, fun x hx => ⟨fun h0 => ?_, (h.ok x hx).2⟩⟩
  · rcases h.own.2 with h1 | ⟨g, cap, cur, rfl, e2, e3, e4⟩
    · exact .inl h1
    · exact .inr ⟨g, cap, cur, rfl, e2, hc _ _ e3 rfl, e4⟩
  · obtain ⟨b, off, e, hcell⟩ := (h.ok x hx).1 h0
    refine ⟨b, off, e, fun i hi => ?_⟩
    obtain ⟨o, ho, hoc⟩ := cells_of_cell (hcell i hi)
    rw [← hcell i hi]
    exact World.cell?_of_block ((hc _ _ ho hoc).trans ho.symm)
theorem Rt.keep {w : World} {yv : Value} {Br Bo ba : Nat} {Ds : List Nat} {pre : List (List UInt8)} {a : Option Addr} {c : Nat} {l : List Bx} {W W' : World} {Q : Nat → Prop} (h : Rt w yv Br Bo ba Ds pre a c l W) (hf : Fr Q W W')
    (hq : ∀ q, Q q → w.heap.size ≤ q ∧ q ∉ Ds ∧ ∀ o : Obj, W.heap[q]? = some o → o.isCells = false) : Rt w yv Br Bo ba Ds pre a c l W' := by
  have hc : ∀ (k : Nat) (o : Obj), W.heap[k]? = some o → o.isCells = true → W'.heap[k]? = some o := fun k o hk ho => (hf.heap (block_lt hk) (fun x => by have := (hq k x).2.2 o hk; rw [ho] at this; cases this)).trans hk
  exact ⟨h.fr.trans hf (fun i hi => .inr (hq i hi).1), hc _ _ h.yb rfl, hc _ _ h.num rfl, hc _ _ h.right rfl, hc _ _ h.out rfl, ol_cells h.ol hc, h.recs, ⟨h.mks.1, fun D hD => (hf.heap (block_lt (h.mks.2 D hD)) (fun x => (hq D x).2.1 hD)).trans (h.mks.2 D hD)⟩, h.mlo⟩
theorem Rt.below {w : World} {yv : Value} {Br Bo ba : Nat} {Ds : List Nat} {pre : List (List UInt8)} {a : Option Addr} {c : Nat} {l : List Bx} {W W' : World} (h : Rt w yv Br Bo ba Ds pre a c l W) (hb : Below W.heap.size W W') : Rt w yv Br Bo ba Ds pre a c l W' := h.keep (Q := fun _ => False) (Fr.ofBelow hb) (fun _ x => x.elim)
theorem below_grown {W W' : World} {row : Option Nat} (hg : W.grownBy W' row) : Fr (fun q => row = some q) W W' := fr_grown hg

theorem off_pos {l : List (List UInt8)} {k : Nat} (h1 : k ≠ 0) (h2 : k < l.length) : 12 ≤ off l k := by
  obtain ⟨j, rfl⟩ : ∃ j, k = j + 1 := ⟨k - 1, by omega⟩
  rw [off_succ (by omega)]; omega
theorem rt_blk {w : World} {yv : Value} {Br Bo ba : Nat} {Ds : List Nat} {pre : List (List UInt8)} {a : Option Addr} {c : Nat} {l : List Bx} {W : World} (h : Rt w yv Br Bo ba Ds pre a c l W) {g : Nat} (hg : (Value.slice a pre.length c).ownBlock = some g) : g < W.heap.size ∧ w.heap.size + 2 ≤ g := own_blk h.ol.own hg
theorem own_isCells {w : World} {base e size n : Nat} {v : Value} {xs : List Value} (h : w.ownsRow base e size v n xs) {g : Nat} (hg : v.ownBlock = some g) : ∃ cur, w.heap[g]? = some (.cells cur e) := by
  rcases h.2 with ⟨rfl, -⟩ | ⟨g', cap, cur, rfl, e2, e3, e4⟩
  · simp [Value.ownBlock] at hg
  · simp only [Value.ownBlock, Option.some.injEq] at hg
    subst hg
    exact ⟨cur, e3⟩

section
variable {F : Nat → Prop} {B : Nat} {h : H}

end
end Go.Proofs.YthmedpabgblddabGreatDoor.Sl
