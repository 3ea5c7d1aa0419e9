/-
  'slices.Sorted(maps.Keys(t.clients))' of a table's map.
-/
import Derived.Test.YtenkgpfeifflnaaSeSh
import Derived.Test.YtenkgpfeifflnaaSeI
namespace Go.Proofs.Ytenkgpfeifflnaa.Sk
open Go.RowKit Go.Maps Go.Sort Go.Shelf Kt Sm Sa Tsh
set_option linter.unusedVariables false
set_option maxRecDepth 20000

def iK (l : List X) : List Value := l.map fun (p : X) => Value.int .i64 p.k
theorem iK_len (l : List X) : (iK l).length = l.length := by simp [iK]
theorem intKeys_Dm (l : List X) : intKeys (Dm X.k X.v l) = l.map (fun (p : X) => p.k) := by
  simp only [Dm, intKeys, List.map_map]
  rfl
theorem sorts (m : Nat) : AnyZI.SortsIn Try.prog lsorted_ren Fence.wide m :=
  ⟨fun blk off cap ss W hH hblk hsz => callsIn_wide.2 (AnyM.slices_Sort_int lsort blk off cap ss W hH hblk hsz),
   fun p cap W => callsIn_wide.2 (AnyM.slices_Sort_int_none lsort p cap W)⟩
theorem keys_any (mb : Option Nat) (W : World) : Calls Try.prog 24 #[.map mb] W fun e w' => e = .returned (.func (.func 27) #[] #[.pointer (some ⟨W.heap.size, 0, none⟩)]) ∧ w' = W.alloc (.cells #[.map mb] 46) :=
  (callsIn_wide (n := 5)).1 (AnyZI.keys_in lkeys Fence.wide 5 trivial rfl mb W)
theorem sort_is {l : List X} (hs : Srt X.k l) {ss : List Int} (h : ss.Perm (l.map fun (p : X) => p.k)) : (ss.mergeSort fun x y => decide (x ≤ y)) = l.map fun (p : X) => p.k := by
  have h1 := mergeSort_of_perm_i h
  unfold leI at h1
  rw [h1]
  refine List.mergeSort_of_pairwise ?_
  rw [List.pairwise_map]
  exact List.Pairwise.imp (fun {a b} h => by simp; omega) hs

set_option maxHeartbeats 1000000 in
theorem sorted_any {w : World} {b : Nat} {l : List X} (hm : Mt w b l) (hs : Srt X.k l) (hl : l.length ≤ 100000) :
    Calls Try.prog 23 #[.func (.func 27) #[] #[.pointer (some ⟨w.heap.size, 0, none⟩)]] (w.alloc (.cells #[.map (some b)] 46)) fun e w' => ∃ ao cap, e = .returned (.slice ao l.length cap) ∧
      w'.ownsRow (w.heap.size + 1) 3 1 (.slice ao l.length cap) l.length (iK l) ∧ Below (w.heap.size + 1) (w.alloc (.cells #[.map (some b)] 46)) w' := by
  have hbl := hm.lt
  have hown : w.ownsMap Try.prog 3 vE b l.length (Dm X.k X.v l) := hm
  have hseq : SeqGives Fence.wide 2 Try.prog 27 #[.pointer (some ⟨w.heap.size, 0, none⟩)] encZ (fun ss => ss.Perm (intKeys (Dm X.k X.v l))) (Maps.size (Dm X.k X.v l)) (w.alloc (.cells #[.map (some b)] 46)) :=
    AnyZI.keys_gives (ρ := lkeys_ren) { lkeys with } Fence.wide _ trivial rfl (by omega) w.heap.size b l.length (Dm X.k X.v l) _ (by simp) (by simp) (hown.alloc _)
  refine (callsIn_wide (n := 5)).1 ?_
  refine (AnyZI.sorted_in lsorted Fence.wide 5 trivial trivial trivial trivial rfl (by omega) (sorts _) (enters_of Try.func26 (by kernel_rfl) rfl) 27 #[.pointer (some ⟨w.heap.size, 0, none⟩)] trivial (enters_of Try.func27 (by kernel_rfl) rfl) _ _ (by rw [Dm_size]; unfold maxLen; omega) (by rw [Dm_size]; omega) _ hseq).mono ?_
  rintro e w' ⟨v, ss, rfl, hS, hrow, hnil, hb⟩
  have hsz : (w.alloc (.cells #[.map (some b)] 46)).heap.size = w.heap.size + 1 := by simp
  rw [hsz] at hrow hb
  rw [intKeys_Dm] at hS
  have hlen : ss.length = l.length := by rw [hS.length_eq]; simp
  rw [sort_is hs hS, hlen] at hrow
  have e1 : (l.map fun (p : X) => p.k).map encZ = iK l := by simp [iK, encZ]
  rw [e1] at hrow
  obtain ⟨ao, cap, rfl⟩ := own_form hrow
  exact ⟨ao, cap, rfl, hrow, hb⟩
end Go.Proofs.Ytenkgpfeifflnaa.Sk
