/-
  The document's Next at whatever place, its Good; the walks of CrcGood and CrcFrames.
-/
import Derived.Test.YtjmhgifdkmglhaaDoorCrcR
namespace Go.Proofs.YtjmhgifdkmglhaaDoor.Cr
open Go.RowKit Kt Cs Cw Cf Cn Cg Ck Cb
set_option linter.unusedVariables false

theorem refNext_all (w : World) (ao : Option Addr) (cap k : Nat) (bs : List UInt8) (hr : Row w ao bs) (hl : bs.length ≤ 1000000) (hc : bs.length ≤ cap) (hcap : cap ≤ 9223372036854775807) (hk : k ≤ bs.length) :
    Calls Tryd.prog 16 #[.slice ao bs.length cap, .int .i64 k] w fun e w' => Below w.heap.size w w' ∧
      (((Cp.fd (bs.drop k)).1 ≠ 0 ∧ e = .returned (.tuple #[.slice none 0 0, .int .i64 0, .int .i64 ((Cp.fd (bs.drop k)).1 : Nat)])) ∨
       ((Cp.fd (bs.drop k)).1 = 0 ∧ ∃ v, e = .returned (.tuple #[v, .int .i64 ((k + 12 + (Cp.fd (bs.drop k)).2 : Nat) : Int), .int .i64 0]) ∧ w'.ownsRow w.heap.size 5 1 v (Cp.fd (bs.drop k)).2 (U ((bs.drop (k + 12)).take (Cp.fd (bs.drop k)).2)))) := by
  by_cases h : bs.length < k + 12
  · have e : Cp.fd (bs.drop k) = (4, 0) := Cp.fd_short (by rw [List.length_drop]; omega)
    refine (refNext_short w ao bs.length cap k (by omega) hk h).mono ?_
    rintro e w1 ⟨rfl, rfl⟩
    rw [e]
    exact ⟨Below.refl _ _, .inl ⟨by simp, rfl⟩⟩
  · obtain ⟨b, off, rfl, _⟩ := hr (by omega)
    have hf := refNext_any w b off (cap - 12 - k) k (bs.length - 12 - k) (bs.drop k) (Row_at hr k) (by rw [List.length_drop]; omega) (by omega) (by omega) (by omega) (by omega)
    rw [show bs.length - 12 - k + 12 + k = bs.length by omega, show cap - 12 - k + 12 + k = cap by omega, List.drop_drop] at hf
    exact hf

theorem fd_nil : Cp.fd [] = (4, 0) := Cp.fd_short (by simp)

set_option maxHeartbeats 1000000 in
set_option maxRecDepth 20000 in
theorem refGood_any (w : World) (ao : Option Addr) (cap : Nat) (bs : List UInt8) (hr : Row w ao bs) (hl : bs.length ≤ 1000000) (hc : bs.length ≤ cap) (hcap : cap ≤ 9223372036854775807) :
    Calls Tryd.prog 18 #[.slice ao bs.length cap] w fun e w' => e = .returned (.tuple #[.int .i64 (gend bs : Nat), .int .i64 (goodE bs : Nat)]) ∧ Below w.heap.size w w' := by
  go_enter Tryd.func18, Tryd.ntmps18
  go_wp2
  go_loopw [4] (fun i wr => ∃ k : Nat, i = .int .i64 k ∧ k ≤ bs.length ∧ Hid (∃ f, bs.length + 1 ≤ f + k ∧ ends bs f k = gend bs) ∧ Below w.heap.size w wr) (fun i _ => bs.length - (intOf i).toNat)
  case atStart => exact ⟨0, rfl, by omega, ⟨bs.length + 1, by omega, rfl⟩, Below.refl _ _⟩
  case round =>
    obtain ⟨k, rfl, hk, hH, hB⟩ := hrel
    obtain ⟨f, hf, he⟩ := hH.out
    obtain ⟨g, rfl⟩ : ∃ g, f = g + 1 := ⟨f - 1, by omega⟩
    rw [ends] at he
    have HE := mkH he
    clear he hH
    by_cases hkl : k = bs.length
    · have t0 : decide ((k : Int) < (bs.length : Int)) = false := by simp; omega
      have HG : Hid (gend bs = k ∧ goodE bs = 0) := by
        have h1 := HE.out
        rw [hkl, List.drop_length, fd_nil, if_neg (by simp)] at h1
        exact ⟨h1.symm.trans hkl.symm, by rw [goodE, if_pos h1.symm]⟩
      clear HE
      go_wp2
      go_ret2
      exact ⟨by rw [HG.out.1, HG.out.2]; rfl, hB⟩
    · have t0 : decide ((k : Int) < (bs.length : Int)) = true := by simp; omega
      go_wp2_with fail
      refine (refNext_all wr ao cap k bs (hr.below hB) hl hc hcap hk).mono ?_
      rintro e w1 ⟨hB1, ⟨h1, rfl⟩ | ⟨h1, v, rfl, _⟩⟩
      · have hBB := hB.trans (hB1.mono hB.size)
        have t1 : (((Cp.fd (bs.drop k)).1 : Int) != 0) = true := by simp; omega
        have HG : Hid (gend bs = k ∧ goodE bs = (Cp.fd (bs.drop k)).1) := by
          have h2 := HE.out
          rw [if_neg h1] at h2
          exact ⟨h2.symm, by rw [goodE, ← h2, if_neg hkl]⟩
        clear HE h1
        generalize (Cp.fd (bs.drop k)).1 = ee at t1 HG
        go_wp2
        go_ret2
        exact ⟨by rw [HG.out.1, HG.out.2]; rfl, hBB⟩
      · have hBB := hB.trans (hB1.mono hB.size)
        have hfs := Cp.fd_some h1
        rw [List.length_drop] at hfs
        have HG : Hid (∃ f, bs.length + 1 ≤ f + (k + 12 + (Cp.fd (bs.drop k)).2) ∧ ends bs f (k + 12 + (Cp.fd (bs.drop k)).2) = gend bs) := by
          have h2 := HE.out
          rw [if_pos h1] at h2
          exact ⟨g, by omega, h2⟩
        clear HE h1
        generalize (Cp.fd (bs.drop k)).2 = n at hfs HG
        go_wp2
        go_roundw
        case rel => exact ⟨k + 12 + n, by go_num, by omega, HG, hBB⟩
        case measure => simp [intOf]; omega

set_option maxHeartbeats 1000000 in
set_option maxRecDepth 20000 in
theorem good_walk (w : World) (hT : Tb w) (ao : Option Addr) (cap : Nat) (bs : List UInt8) (hr : Row w ao bs) (hlen : bs.length ≤ cap) (hcap : cap ≤ 9223372036854775807) :
    Calls Tryd.prog 5 #[.slice ao bs.length cap] w fun e w' => e = .returned (.bool true) ∧ Below w.heap.size w w' := by
  have hT0 := hT.size
  go_enter Tryd.func5, Tryd.ntmps5
  go_wp2_with fail
  refine (few_any w ao cap bs hr hlen hcap).mono ?_
  rintro e w1 ⟨v1, rfl, hown1, hb1⟩
  obtain ⟨bh, hbh⟩ : ∃ bh, bs.take 3000 = bh := ⟨_, rfl⟩
  have h3 : bh.length ≤ 3000 := by rw [← hbh, List.length_take]; omega
  rw [hbh] at hown1
  clear hr hbh hlen
  obtain ⟨a1, c1, rfl, -, hc1, hr1⟩ := own_row hown1
  have hcc := own_cap hown1
  clear hown1
  go_wp2_with fail
  refine (good_any w1 a1 c1 bh (hT.below hb1 hT0) hr1 (by omega) hc1 hcc).mono ?_
  rintro e w2 ⟨rfl, hb2⟩
  have hr2 := hr1.below hb2
  have hb2 := hb1.trans (hb2.mono hb1.size)
  clear hr1 hb1
  go_wp2_with fail
  refine (refGood_any w2 a1 c1 bh hr2 (by omega) hc1 hcc).mono ?_
  rintro e w3 ⟨rfl, hb3⟩
  have hb3 := hb2.trans (hb3.mono hb2.size)
  clear hr2 hb2
  generalize gend bh = x
  generalize goodE bh = y
  go_wp2_with fail
  refine (works_any w3 (hT.below hb3 hT0)).mono ?_
  rintro e w4 ⟨rfl, hb4⟩
  go_wp2
  go_ret
  exact ⟨rfl, hb3.trans (hb4.mono hb3.size)⟩
end Go.Proofs.YtjmhgifdkmglhaaDoor.Cr
