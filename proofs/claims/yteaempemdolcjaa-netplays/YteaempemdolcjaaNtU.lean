/-
  The document's bag: Take of what is there, Drop.
-/
import Derived.Test.YteaempemdolcjaaNtT
namespace Go.Proofs.Yteaempemdolcjaa.Nu
open Go.RowKit Kt Gf Nr Gk Nv Ns Ks Nw Nx Na No Np Nt
set_option linter.unusedVariables false
set_option linter.unusedSimpArgs false
set_option maxRecDepth 20000

theorem szInt : (Try.prog.info? 3).map (·.size) = some 1 := by kernel_rfl
set_option maxHeartbeats 2000000 in
theorem rtake_in {w : World} {rb : Nat} {L : List Int} (h : Rg w rb L) (k : Nat) (x : Int) (hx : L[k]? = some x) (hl : L.length ≤ 1000000) : Calls Try.prog 11 #[.pointer (some ⟨rb, 0, none⟩), .int .i64 (k : Int)] w fun e w' => e = .returned (.tuple #[.int .i64 x, .bool true]) ∧ Rg w' rb (L.take k ++ L.drop (k + 1)) ∧ Fr (fun q => q = rb) w w' := by
  have HG := mkH (rget_in h k x hx)
  obtain ⟨ao, cap, h1, h2⟩ := id h
  have hk := lt_of hx
  have hre := (RowE.own h2).2
  have hcc := own_le h2
  have hcx := own_cap h2
  obtain ⟨n, hn⟩ : ∃ n, n = L.length := ⟨_, rfl⟩
  have HN := mkH hn
  rw [← hn] at hk hcc hl h1
  have k1 := fun W => Ns.run_h (P := Try.prog) W Try.underlying28 szInt ao n cap k (by omega)
  have k2 := fun W => Ns.run_l (P := Try.prog) W Try.underlying28 szInt ao n cap (k + 1) (by omega)
  have hal : Below w.heap.size w (w.alloc (.cells #[] 3)).drew := ((Below.refl _ w).alloc (Nat.le_refl _) _).drew
  have hom : (w.alloc (.cells #[] 3)).drew.ownsRow w.heap.size 3 1 (.slice (some ⟨w.heap.size, 0, none⟩) 0 0) 0 [] := own_below (World.ownsRow_made (e := 3) (size := 1) w #[] 0 (Nat.le_refl _) (Nat.zero_le _) rfl) (Below.refl _ _).drew
  have hs1 : Src Try.prog 1 28 (.slice ao k cap) k (Iv (L.take k)) (w.alloc (.cells #[] 3)).drew := by
    have := RowE.src (RowE.take (hre.below hal) k) cap
    rw [List.length_take, ← hn, Nat.min_eq_left (by omega)] at this
    exact this
  have HS2 : Hid (∀ W, Below w.heap.size w W → Src Try.prog 1 28 (.slice (Ns.ad ao cap (k + 1) 1) (n - (k + 1)) (cap - (k + 1))) (n - (k + 1)) (Iv (L.drop (k + 1))) W) := mkH (fun W hW => by
    have := RowE.src (RowE.drop (hre.below hW) cap (k + 1) (by omega)) (cap - (k + 1))
    rw [List.length_drop, ← hn] at this
    exact this)
  have c0 : w.cell? ⟨rb, 0, none⟩ = some (.slice ao n cap) := h1.cell 0 _ rfl
  have c1 : (w.alloc (.cells #[] 3)).cell? ⟨rb, 0, none⟩ = some (.slice ao n cap) := (h1.alloc _).cell 0 _ rfl
  have HCL : Hid (∀ W, Below w.heap.size w W → W.cell? ⟨rb, 0, none⟩ = some (.slice ao n cap)) := mkH (fun W hW => (h1.bel hW).cell 0 _ rfl)
  have HOM := mkH hom
  have HS1 := mkH hs1
  have HAL0 := mkH hal
  have HR := mkH h
  have hj1 : ((k + 1 : Nat) : Int) = (k : Int) + 1 := by omega
  rw [hj1] at k2
  have hjw : IntKind.i64.wrap ((k : Int) + 1) = (k : Int) + 1 := IntWalk.i64_in _ (by omega)
  obtain ⟨aj, haj⟩ : ∃ aj, Ns.ad ao cap (k + 1) 1 = aj := ⟨_, rfl⟩
  obtain ⟨nj, hnj⟩ : ∃ nj, n - (k + 1) = nj := ⟨_, rfl⟩
  obtain ⟨cj, hcj⟩ : ∃ cj, cap - (k + 1) = cj := ⟨_, rfl⟩
  rw [haj, hnj, hcj] at HS2
  simp only [haj, hnj, hcj] at k2
  have HNJ : Hid (k + nj + 1 = n) := mkH (by omega)
  have hnj2 : nj ≤ 1000000 := by omega
  have hk2 : k ≤ 1000000 := by omega
  clear h h1 h2 hre hal hom hs1 hx haj hnj hcj hj1 hn
  go_enter Try.func11, Try.ntmps11
  go_wp2_with (go_at_call 19; refine HG.out.mono ?_; rintro e w1 ⟨rfl, rfl⟩)
  go_region_law (first
    | (refine step_append_own_src (by rfl) (.tmp 16) (.tmp 22) 28 28 (by rfl) w1.heap.size 3 (.int .i64 0) 1 8 Try.underlying28 info_I (by rfl) (by decide) (.slice (some ⟨w1.heap.size, 0, none⟩) 0 0) 0 [] (by rfl) HOM.out (.slice ao k cap) k (Iv (L.take k)) (by rfl) HS1.out (by unfold maxLen; omega) (by omega) (by simp) ?_; intro v1 w2 hown1 hgr1; have hbel1 := below_own HOM.out hgr1 HAL0.out (by simp); simp only [Nat.zero_add, List.nil_append] at hown1; have hform1 := own_form hown1; have HO1 := mkH hown1; have HBE1 := mkH hbel1; have c2 := HCL.out _ hbel1; clear hown1 hgr1)
    | (refine step_append_own_src (by rfl) (.tmp 23) (.tmp 30) 28 28 (by rfl) w1.heap.size 3 (.int .i64 0) 1 8 Try.underlying28 info_I (by rfl) (by decide) v1 k (Iv (L.take k)) (by rfl) HO1.out (.slice aj nj cj) nj (Iv (L.drop (k + 1))) (by rfl) (HS2.out _ HBE1.out) (by unfold maxLen; omega) (by omega) HBE1.out.size ?_; intro v6 w6 hown6 hgr6; have hbel6 := below_own HO1.out hgr6 HBE1.out HBE1.out.size; obtain ⟨a6, c6, rfl⟩ := own_form hown6; obtain ⟨⟨v, q1⟩, q2, q3, q4⟩ := rg_fin (L' := L.take k ++ L.drop (k + 1)) HR.out hbel6 (by rw [Iv_append]; exact own_mono hown6 (Nat.zero_le _)) (by rw [List.length_append, List.length_take, List.length_drop]; have := HNJ.out; have := HN.out; omega); have H3 := mkH q3; have H4 := mkH q4; clear hown6 hgr6 hbel6 hbel1 q3 q4))
  all_goals
    go_wp2
    go_ret2
    exact ⟨rfl, H3.out, H4.out⟩

theorem tm3 (x : Int) : (x.tmod 3 + 3).tmod 3 = atM x 3 ∧ (x.tmod 3 + 3) % 3 = atM x 3 := by
  have hb := tmod_bd x 3 (by omega)
  have e : (x.tmod 3 + 3) % 3 = atM x 3 := by
    unfold atM
    rw [if_neg (by omega)]
    have e := Int.tmod_add_mul_tdiv x 3
    omega
  exact ⟨by rw [Int.tmod_eq_emod_of_nonneg (by omega)]; exact e, e⟩
/-- Those that stay. -/
def kp (n : Int) (x : Int) : Bool := decide (atM x 3 ≠ n)
theorem kp_snoc (n : Int) (l : List Int) (k : Nat) (x : Int) (h : l[k]? = some x) : (l.take (k + 1)).filter (kp n) = (l.take k).filter (kp n) ++ (if atM x 3 = n then [] else [x]) := by
  rw [List.take_add_one, h, List.filter_append]
  by_cases hc : atM x 3 = n <;> simp [kp, hc]

set_option maxHeartbeats 2000000 in
theorem rdrop_any {w : World} {rb : Nat} {L : List Int} (h : Rg w rb L) (nn : Int) (hl : L.length ≤ 1000000) : Calls Try.prog 17 #[.pointer (some ⟨rb, 0, none⟩), .int .i64 nn] w fun e w' => e = .returned (.int .i64 ((L.length : Int) - ((L.filter (kp nn)).length : Int))) ∧ Rg w' rb (L.filter (kp nn)) ∧ Fr (fun q => q = rb) w w' := by
  obtain ⟨ao, cap, h1, h2⟩ := id h
  have hre := (RowE.own h2).2
  obtain ⟨n, hn⟩ : ∃ n, n = L.length := ⟨_, rfl⟩
  have HN := mkH hn
  rw [← hn] at hl h1 ⊢
  have HC := mkH (fun W (hW : Below w.heap.size w W) => (h1.bel hW).cell 0 (.slice ao n cap) rfl)
  have HRE := mkH hre
  have HR := mkH h
  clear h h1 h2 hre hn
  go_enter Try.func17, Try.ntmps17
  go_wp2_with fail
  go_loopw [5, 6] (fun s5 s6 wr => ∃ (i j : Nat) (al : Option Addr) (cl : Nat), s6 = .int .i64 i ∧ s5 = .slice al j cl ∧ i ≤ n ∧ j ≤ i ∧ Hid (wr.ownsRow w.heap.size 3 1 (.slice al j cl) j (Iv ((L.take i).filter (kp nn)))) ∧ Hid (((L.take i).filter (kp nn)).length = j) ∧ Hid (Below w.heap.size w wr)) (fun _ s6 _ => n - (intOf s6).toNat)
  case atStart => exact ⟨0, 0, none, 0, rfl, rfl, Nat.zero_le _, Nat.le_refl _, mkH (World.ownsRow_nil _ _ _ _), mkH rfl, mkH (Below.refl _ _)⟩
  case round =>
    obtain ⟨i, j, al, cl, rfl, rfl, hin, hji, HO, HJ, HB⟩ := hrel
    have c0 := HC.out wr HB.out
    by_cases hlt : i < n
    · obtain ⟨x, hx⟩ := some_of (l := L) (i := i) (by rw [← HN.out]; exact hlt)
      obtain ⟨bs, off, rfl, hcs⟩ := HRE.out (by rw [← HN.out]; omega)
      have d0 := hcs i x hx
      have c1 : wr.cell? ⟨bs, off + i, none⟩ = some (.int .i64 x) := by
        rw [World.cell?_of_block (w := w) (a := ⟨bs, off + i, none⟩) (HB.out.block _ (World.block_lt_of_cell? w _ d0))]
        exact d0
      have hb3 := tmod_bd x 3 (by omega)
      obtain ⟨t1, t2⟩ := tm3 x
      have hw3 : IntKind.i64.wrap (x.tmod 3 + 3) = x.tmod 3 + 3 := IntWalk.i64_in _ (by omega)
      have HKS := mkH (kp_snoc nn L i x hx)
      obtain ⟨r, hr⟩ : ∃ r, r = atM x 3 := ⟨_, rfl⟩
      rw [← hr] at t1 t2 HKS
      have hiI : (i : Int) < (n : Int) := by omega
      clear hcs d0 hx hr
      by_cases hrn : r = nn
      · have HK2 : Hid ((L.take (i + 1)).filter (kp nn) = (L.take i).filter (kp nn)) := mkH (by rw [HKS.out, if_pos hrn, List.append_nil])
        clear HKS
        go_wp2_with fail
        go_roundw
        case rel => exact ⟨i + 1, j, al, cl, by go_num, rfl, by omega, by omega, mkH (by rw [HK2.out]; exact HO.out), mkH (by rw [HK2.out]; exact HJ.out), HB⟩
        case measure => simp [intOf]; omega
      · have HK2 : Hid ((L.take (i + 1)).filter (kp nn) = (L.take i).filter (kp nn) ++ [x]) := mkH (by rw [HKS.out, if_neg hrn])
        obtain ⟨W3, hW3⟩ : ∃ W3, W3 = wr.alloc (.cells #[.int .i64 x] 3) := ⟨_, rfl⟩
        have hb3' : Below wr.heap.size wr W3 := by rw [hW3]; exact (Below.refl _ wr).alloc (Nat.le_refl _) _
        have HO3 := mkH (own_below HO.out hb3')
        have HS3 : Hid (Src Try.prog 1 28 (.slice (some ⟨wr.heap.size, 0, none⟩) 1 1) 1 [.int .i64 x] W3) := mkH (by rw [hW3]; exact src_val Try.underlying28 wr _ rfl)
        have HB3 : Hid (Below w.heap.size w W3) := mkH (HB.out.trans (hb3'.mono HB.out.size))
        have hs3 : w.heap.size ≤ W3.heap.size := HB3.out.size
        clear HKS hb3'
        rw [hW3] at HO3 HS3 HB3 hs3
        clear hW3
        go_wp2_with (at_builtin; refine (wpList_append_own_src _ rfl (.tmp 29) (.tmp 37) 28 28 rfl w.heap.size 3 _ 1 8 Try.underlying28 info_I rfl (by decide) _ j (Iv ((L.take i).filter (kp nn))) rfl HO3.out _ 1 [.int .i64 x] rfl HS3.out ?h632 ?hby2 ?hbs2 ?_))
        case h632 => unfold maxLen; omega
        case hby2 => omega
        case hbs2 => exact hs3
        intro v4 w4 hown4 hgr4
        have hb4 := below_own HO3.out hgr4 HB3.out hs3
        obtain ⟨a4, c4, rfl⟩ := own_form hown4
        have HO4 : Hid (w4.ownsRow w.heap.size 3 1 (.slice a4 (j + 1) c4) (j + 1) (Iv ((L.take (i + 1)).filter (kp nn)))) := mkH (by rw [HK2.out, Iv_append]; exact hown4)
        have HB4 := mkH hb4
        have HJ4 : Hid (((L.take (i + 1)).filter (kp nn)).length = j + 1) := mkH (by rw [HK2.out, List.length_append, HJ.out]; rfl)
        clear hown4 hgr4 hb4 HO3 HS3 HB3 hs3 HK2
        go_wp2_with fail
        go_roundw
        case rel => exact ⟨i + 1, j + 1, a4, c4, by go_num, rfl, by omega, by omega, HO4, HJ4, HB4⟩
        case measure => simp [intOf]; omega
    · have hin2 : i = n := by omega
      have HF : Hid ((L.take i).filter (kp nn) = L.filter (kp nn)) := mkH (by rw [List.take_of_length_le (by rw [← HN.out]; omega)])
      rw [HF.out] at HO HJ
      obtain ⟨⟨v, q1⟩, q2, q3, q4⟩ := rg_fin (L' := L.filter (kp nn)) HR.out HB.out (own_mono HO.out (Nat.zero_le _)) HJ.out
      have H3 := mkH q3
      have H4 := mkH q4
      have HQ : Hid ((n : Int) - ((L.filter (kp nn)).length : Int) = (n : Int) - (j : Int)) := mkH (by rw [HJ.out])
      have hjn : (j : Int) ≤ (n : Int) := by omega
      have hwj : IntKind.i64.wrap ((n : Int) - (j : Int)) = (n : Int) - (j : Int) := IntWalk.i64_in _ (by omega)
      clear q3 q4 HF HO HJ
      go_wp2
      go_ret
      exact ⟨by rw [HQ.out]; rfl, H3.out, H4.out⟩
end Go.Proofs.Yteaempemdolcjaa.Nu
