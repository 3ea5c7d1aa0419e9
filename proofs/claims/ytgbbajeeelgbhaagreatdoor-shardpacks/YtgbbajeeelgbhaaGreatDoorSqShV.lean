/-
  The document's Pack.
-/
import Derived.Test.YtgbbajeeelgbhaaGreatDoorSqShU
import Derived.Test.YtgbbajeeelgbhaaGreatDoorSqBD
namespace Go.Proofs.YtgbbajeeelgbhaaGreatDoor.Hv
open Go.RowKit Kt Pl Wi Sa
open At (RowT)
set_option linter.unusedVariables false
set_option linter.unusedSimpArgs false
set_option maxRecDepth 20000

set_option maxHeartbeats 4000000 in
theorem rpack_any (w : World) (a1 a2 : Option Addr) (c1 c2 : Nat) (l1 l2 : List Bs) (h1 : RowT w a1 l1) (h2 : RowT w a2 l2) (hl1 : l1.length ≤ 1000000) (hl2 : l2.length ≤ 1000000) :
    Calls Tryz.prog 24 #[.slice a1 l1.length c1, .slice a2 l2.length c2] w fun e w' => ∃ ao cap, e = .returned (.slice ao (Ht.pk l1 l2).length cap) ∧ w'.ownsRow w.heap.size 9 1 (.slice ao (Ht.pk l1 l2).length cap) (Ht.pk l1 l2).length (T (Ht.pk l1 l2)) ∧ Below w.heap.size w w' := by
  have H1 := mkH h1
  have H2 := mkH h2
  obtain ⟨n1, hn1⟩ : ∃ n, l1.length = n := ⟨_, rfl⟩
  obtain ⟨n2, hn2⟩ : ∃ n, l2.length = n := ⟨_, rfl⟩
  have HN1 := mkH hn1
  have HN2 := mkH hn2
  have HP : Hid ([enc n1] ++ l1 ++ l2 = Ht.pk l1 l2) := mkH (by unfold Ht.pk; rw [hn1])
  rw [hn1] at hl1
  rw [hn2] at hl2
  rw [hn1, hn2]
  clear h1 h2 hn1 hn2
  go_enter Tryz.func24, Tryz.ntmps24
  go_wp2_with fail
  refine (Rf.refNum_ok w none 0 n1 [] (Row.nil _ _) (by simp) (by omega)).mono ?_
  rintro e W2 ⟨v2, rfl, hw2, hb2⟩
  simp only [List.nil_append, List.length_nil, Nat.zero_add] at hw2
  obtain ⟨b2, c3, rfl⟩ := own_form hw2
  have hcv := Hr.conv_any (Row.own hw2).2.2 c3
  have HB2 := mkH hb2
  clear hw2 hb2
  have hal3 : Below W2.heap.size W2 (W2.alloc (.cells #[.string (S (enc n1))] 9)) := (Below.refl _ W2).alloc (Nat.le_refl _) _
  have HO3 : Hid ((W2.alloc (.cells #[.string (S (enc n1))] 9)).ownsRow w.heap.size 9 1 (.slice (some ⟨W2.heap.size, 0, none⟩) 1 1) 1 (T [enc n1])) := mkH ⟨rfl, .inr ⟨W2.heap.size, 1, #[.string (S (enc n1))], rfl, HB2.out.size, heap_alloc_new W2 _, Nat.le_refl _, by decide, rfl, by simp [T]⟩⟩
  have HS1 := mkH (srcT ((H1.out.below HB2.out).below hal3) c1)
  have HS2 := mkH (((H2.out.below HB2.out).below hal3))
  have HB3 := mkH (HB2.out.trans (hal3.mono HB2.out.size))
  have hs3 := HB3.out.size
  rw [HN1.out] at HS1
  clear hal3
  go_wp2_with (at_builtin; refine (wpList_append_own_src _ rfl (.tmp 15) (.tmp 16) 33 33 rfl w.heap.size 9 _ 1 16 Tryz.underlying33 info_S rfl (by decide) _ 1 (T [enc n1]) rfl HO3.out _ n1 (T l1) rfl HS1.out ?h63 ?hby ?hbs ?_))
  case h63 => unfold maxLen; omega
  case hby => omega
  case hbs => omega
  intro v5 w5 hown hgr
  have hb5 := below_own HO3.out hgr HB3.out hs3
  rw [← T_append, show 1 + n1 = ([enc n1] ++ l1).length by rw [List.length_append, HN1.out]; rfl] at hown
  obtain ⟨a5, c5, rfl⟩ := own_form hown
  have HO5 := mkH hown
  have HB5 := mkH hb5
  have hs5 := hb5.size
  have HS5 := mkH (srcT (H2.out.below hb5) c2)
  rw [HN2.out] at HS5
  have hlen5 : ([enc n1] ++ l1).length = 1 + n1 := by rw [List.length_append, HN1.out]; rfl
  obtain ⟨l5, hl5⟩ : ∃ l5, [enc n1] ++ l1 = l5 := ⟨_, rfl⟩
  rw [hl5] at HO5 hlen5 HP ⊢
  clear hown hgr hb5 HO3 HS1 HS2 HB3 hl5
  go_wp2_with (at_builtin; refine (wpList_append_own_src _ rfl (.tmp 17) (.tmp 18) 33 33 rfl w.heap.size 9 _ 1 16 Tryz.underlying33 info_S rfl (by decide) _ l5.length (T l5) rfl HO5.out _ n2 (T l2) rfl HS5.out ?h632 ?hby2 ?hbs2 ?_))
  case h632 => unfold maxLen; omega
  case hby2 => omega
  case hbs2 => omega
  intro v6 w6 hown hgr
  rw [← hlen5] at hgr
  have hb6 := below_own HO5.out hgr HB5.out hs5
  rw [← T_append, show 1 + n1 + n2 = (l5 ++ l2).length by rw [List.length_append, HN2.out, hlen5], HP.out] at hown
  obtain ⟨a6, c6, rfl⟩ := own_form hown
  have HO6 := mkH hown
  have HB6 := mkH hb6
  obtain ⟨L, hL⟩ : ∃ L, Ht.pk l1 l2 = L := ⟨_, rfl⟩
  rw [hL] at HO6 ⊢
  have HL := mkH hL
  clear hown hgr hb6 hL
  go_wp2
  go_ret
  rw [HL.out]
  exact ⟨a6, c6, rfl, HO6.out, HB6.out⟩
end Go.Proofs.YtgbbajeeelgbhaaGreatDoor.Hv
