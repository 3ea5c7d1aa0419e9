/-
  'slices.Sorted(maps.Keys(best))' of a map of votes.
-/
import Derived.Test.YtaainjkhenenoaaB9Sh
import Derived.Test.YtaainjkhenenoaaB9M
namespace Go.Proofs.Ytaainjkhenenoaa.Bs
open Go.RowKit Go.Maps Go.Sort Go.Shelf Kt Dk Bp Bm Tsh
set_option linter.unusedVariables false
set_option maxRecDepth 20000

def iK (l : List X) : List Value := l.map fun (p : X) => Value.int .i64 p.s
theorem iK_len (l : List X) : (iK l).length = l.length := by simp [iK]
theorem intKeys_Dm (l : List X) : intKeys (Dm l) = l.map (fun (p : X) => p.s) := by
  simp only [Dm, intKeys, List.map_map]
  rfl
theorem sorts (m : Nat) : AnyZI.SortsIn Try.prog lsorted_ren Fence.wide m :=
  ⟨fun blk off cap ss W hH hblk hsz => callsIn_wide.2 (AnyM.slices_Sort_int lsort blk off cap ss W hH hblk hsz),
   fun p cap W => callsIn_wide.2 (AnyM.slices_Sort_int_none lsort p cap W)⟩
theorem keys_any (mb : Option Nat) (W : World) : Calls Try.prog 34 #[.map mb] W fun e w' => e = .returned (.func (.func 43) #[] #[.pointer (some ⟨W.heap.size, 0, none⟩)]) ∧ w' = W.alloc (.cells #[.map mb] 52) :=
  (callsIn_wide (n := 5)).1 (AnyZI.keys_in lkeys Fence.wide 5 trivial rfl mb W)
theorem sort_is {l : List X} (hs : Srt l) {ss : List Int} (h : ss.Perm (l.map fun (p : X) => p.s)) : (ss.mergeSort fun x y => decide (x ≤ y)) = l.map fun (p : X) => p.s := by
  have h1 := mergeSort_of_perm_i h
  unfold leI at h1
  rw [h1]
  refine List.mergeSort_of_pairwise ?_
  rw [List.pairwise_map]
  exact List.Pairwise.imp (fun {a b} h => by simp; omega) hs

set_option maxHeartbeats 1000000 in
theorem sorted_any {w : World} {b : Nat} {l : List X} (hm : Mw w b l) (hs : Srt l) (hl : l.length ≤ 100000) :
    Calls Try.prog 33 #[.func (.func 43) #[] #[.pointer (some ⟨w.heap.size, 0, none⟩)]] (w.alloc (.cells #[.map (some b)] 52)) fun e w' => ∃ ao cap, e = .returned (.slice ao l.length cap) ∧
      w'.ownsRow (w.heap.size + 1) 3 1 (.slice ao l.length cap) l.length (iK l) ∧ Below (w.heap.size + 1) (w.alloc (.cells #[.map (some b)] 52)) w' := by
  have hbl := hm.lt
  have hown : w.ownsMap Try.prog 3 vE b l.length (Dm l) := hm
  have hseq : SeqGives Fence.wide 2 Try.prog 43 #[.pointer (some ⟨w.heap.size, 0, none⟩)] encZ (fun ss => ss.Perm (intKeys (Dm l))) (Maps.size (Dm l)) (w.alloc (.cells #[.map (some b)] 52)) :=
    AnyZI.keys_gives (ρ := lkeys_ren) { lkeys with } Fence.wide _ trivial rfl (by omega) w.heap.size b l.length (Dm l) _ (by simp) (by simp) (hown.alloc _)
  refine (callsIn_wide (n := 5)).1 ?_
  refine (AnyZI.sorted_in lsorted Fence.wide 5 trivial trivial trivial trivial rfl (by omega) (sorts _) (enters_of Try.func42 (by kernel_rfl) rfl) 43 #[.pointer (some ⟨w.heap.size, 0, none⟩)] trivial (enters_of Try.func43 (by kernel_rfl) rfl) _ _ (by rw [Dm_size]; unfold maxLen; omega) (by rw [Dm_size]; omega) _ hseq).mono ?_
  rintro e w' ⟨v, ss, rfl, hS, hrow, hnil, hb⟩
  have hsz : (w.alloc (.cells #[.map (some b)] 52)).heap.size = w.heap.size + 1 := by simp
  rw [hsz] at hrow hb
  rw [intKeys_Dm] at hS
  have hlen : ss.length = l.length := by rw [hS.length_eq]; simp
  rw [sort_is hs hS, hlen] at hrow
  have e1 : (l.map fun (p : X) => p.s).map encZ = iK l := by simp [iK, encZ]
  rw [e1] at hrow
  obtain ⟨ao, cap, rfl⟩ := own_form hrow
  exact ⟨ao, cap, rfl, hrow, hb⟩
end Go.Proofs.Ytaainjkhenenoaa.Bs
