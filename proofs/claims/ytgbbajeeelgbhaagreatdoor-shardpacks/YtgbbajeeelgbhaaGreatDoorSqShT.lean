/-
  Pack: sessions and groups put together.
-/
import Derived.Test.YtgbbajeeelgbhaaGreatDoorSqShS
import Derived.Test.YtgbbajeeelgbhaaGreatDoorSqAB
namespace Go.Proofs.YtgbbajeeelgbhaaGreatDoor.Ht
open Go.RowKit Kt Pl Wi Sa
open At (RowT)
set_option linter.unusedVariables false
set_option linter.unusedSimpArgs false
set_option maxRecDepth 20000

/-- The document's pack. -/
def pk (l1 l2 : List Bs) : List Bs := [enc l1.length] ++ l1 ++ l2

set_option maxHeartbeats 4000000 in
theorem pack_any (w : World) (a1 a2 : Option Addr) (c1 c2 : Nat) (l1 l2 : List Bs) (h1 : RowT w a1 l1) (h2 : RowT w a2 l2) (hl1 : l1.length ≤ 1000000) (hl2 : l2.length ≤ 1000000) :
    Calls Tryz.prog 20 #[.slice a1 l1.length c1, .slice a2 l2.length c2] w fun e w' => ∃ ao cap, e = .returned (.slice ao (pk l1 l2).length cap) ∧ w'.ownsRow w.heap.size 9 1 (.slice ao (pk l1 l2).length cap) (pk l1 l2).length (T (pk l1 l2)) ∧ Below w.heap.size w w' := by
  have H1 := mkH h1
  have H2 := mkH h2
  obtain ⟨n1, hn1⟩ : ∃ n, l1.length = n := ⟨_, rfl⟩
  obtain ⟨n2, hn2⟩ : ∃ n, l2.length = n := ⟨_, rfl⟩
  have HN1 := mkH hn1
  have HN2 := mkH hn2
  have HP : Hid ([enc n1] ++ l1 ++ l2 = pk l1 l2) := mkH (by unfold pk; rw [hn1])
  rw [hn1] at hl1
  rw [hn2] at hl2
  rw [hn1, hn2]
  clear h1 h2 hn1 hn2
  go_enter Tryz.func20, Tryz.ntmps20
  go_wp2_with fail
  have hal1 : Below w.heap.size w (w.alloc (.cells #[.int .i64 (n1 : Int)] 3)) := (Below.refl _ w).alloc (Nat.le_refl _) _
  have hB1 := Gk.Bx.new w #[.int .i64 (n1 : Int)] 3
  have hsz1 : w.heap.size < (w.alloc (.cells #[.int .i64 (n1 : Int)] 3)).heap.size := by simp
  generalize w.alloc (.cells #[.int .i64 (n1 : Int)] 3) = W1 at *
  refine (Hr.writeNums_one W1 w.heap.size 0 1 n1 (by omega) hsz1 (hB1.cell 0 _ rfl)).mono ?_
  rintro e W2 ⟨rfl, hb2⟩
  have HB2 := mkH (hal1.trans (hb2.mono hal1.size))
  clear hal1 hB1 hsz1 hb2
  go_wp2_with fail
  have hal3 : Below W2.heap.size W2 ((W2.alloc (.cells #[.string (S (enc n1))] 9)).alloc (.cells #[.slice (some ⟨W2.heap.size, 0, none⟩) 1 1, .slice a1 n1 c1, .slice a2 n2 c2] 33)) := ((Below.refl _ W2).alloc (Nat.le_refl _) _).alloc (by simp) _
  have hB3 := (Gk.Bx.new W2 #[.string (S (enc n1))] 9).bel ((Below.refl _ _).alloc (Nat.le_refl _) (.cells #[.slice (some ⟨W2.heap.size, 0, none⟩) 1 1, .slice a1 n1 c1, .slice a2 n2 c2] 33))
  have hB4 := Gk.Bx.new1 W2 (.cells #[.string (S (enc n1))] 9) #[.slice (some ⟨W2.heap.size, 0, none⟩) 1 1, .slice a1 n1 c1, .slice a2 n2 c2] 33
  generalize (W2.alloc (.cells #[.string (S (enc n1))] 9)).alloc (.cells #[.slice (some ⟨W2.heap.size, 0, none⟩) 1 1, .slice a1 n1 c1, .slice a2 n2 c2] 33) = W4 at *
  have hr0 : RowT W4 (some ⟨W2.heap.size, 0, none⟩) [enc n1] := fun _ => ⟨W2.heap.size, 0, rfl, fun i hi => by
    have : i = 0 := by simp at hi; omega
    subst this
    exact hB3.cell 0 _ rfl⟩
  have HR1 := mkH ((H1.out.below HB2.out).below hal3)
  have HR2 := mkH ((H2.out.below HB2.out).below hal3)
  have HB4 := mkH (HB2.out.trans (hal3.mono HB2.out.size))
  refine (Hs3.concat_any W4 (W2.heap.size + 1) _ a1 a2 1 c1 c2 [enc n1] l1 l2 (hB4.cell 0 _ rfl) (by rw [HN1.out]; exact hB4.cell 1 _ rfl) (by rw [HN2.out]; exact hB4.cell 2 _ rfl) hr0 HR1.out HR2.out (by rw [HN1.out, HN2.out]; simp; omega) (pk l1 l2) HP.out).mono ?_
  rintro e W5 ⟨a5, c5, rfl, ho5, hb5⟩
  have HO5 := mkH (Hr.own_lo ho5 HB4.out.size)
  have HB5 := mkH (HB4.out.trans (hb5.mono HB4.out.size))
  clear hal3 hB3 hB4 hr0 ho5 hb5
  obtain ⟨L, hL⟩ : ∃ L, pk l1 l2 = L := ⟨_, rfl⟩
  rw [hL] at HO5 ⊢
  have HL := mkH hL
  clear hL
  go_wp2
  go_ret
  rw [HL.out]
  exact ⟨a5, c5, rfl, HO5.out, HB5.out⟩
end Go.Proofs.YtgbbajeeelgbhaaGreatDoor.Ht
