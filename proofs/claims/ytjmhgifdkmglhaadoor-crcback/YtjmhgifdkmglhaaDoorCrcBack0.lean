/-
  The walk of CrcBack: what is framed is told, wherever its frame stands; cut anywhere it is short.
-/
import Derived.Test.YtjmhgifdkmglhaaDoorCrcX
namespace Go.Proofs.YtjmhgifdkmglhaaDoor.Cb
open Go.RowKit Kt Cs Cw Cf Cn Cg Ck
set_option linter.unusedVariables false

theorem Row_drewN {w : World} {ao : Option Addr} {bs : List UInt8} (h : Row w ao bs) (n : Nat) : Row (w.drewN n) ao bs := h

theorem frame_body (bh : List UInt8) : ∀ r, ((Cp.frame bh ++ r).drop 12).take bh.length = bh := by
  intro r
  have e : Cp.frame bh ++ r = (Cp.put bh.length ++ Cp.put (Cp.sum (Cp.put bh.length)) ++ Cp.put (Cp.sum bh)) ++ (bh ++ r) := by simp [Cp.frame]
  have h12 : (Cp.put bh.length ++ Cp.put (Cp.sum (Cp.put bh.length)) ++ Cp.put (Cp.sum bh)).length = 12 := by simp [Cp.put_len]
  rw [e]
  have := List.drop_left (l₁ := Cp.put bh.length ++ Cp.put (Cp.sum (Cp.put bh.length)) ++ Cp.put (Cp.sum bh)) (l₂ := bh ++ r)
  rw [h12] at this
  rw [this, List.take_left]

set_option maxHeartbeats 1000000 in
set_option maxRecDepth 20000 in
theorem back_walk (w : World) (hT : Tb w) (ao ap : Option Addr) (cap cbp : Nat) (bs bp : List UInt8) (cut : Int) (hr : Row w ao bs) (hlen : bs.length ≤ cap) (hcap : cap ≤ 9223372036854775807) (hrp : Row w ap bp) (hlenp : bp.length ≤ cbp) (hcapp : cbp ≤ 9223372036854775807) :
    Calls Tryd.prog 7 #[.slice ao bs.length cap, .slice ap bp.length cbp, .int .i64 cut] w fun e w' => e = .returned (.bool true) ∧ Below w.heap.size w w' := by
  have hT0 := hT.size
  go_enter Tryd.func7, Tryd.ntmps7
  go_wp2_with fail
  refine (few_any w ao cap bs hr hlen hcap).mono ?_
  rintro e w1 ⟨v1, rfl, hown1, hb1⟩
  obtain ⟨bh, hbh⟩ : ∃ bh, bs.take 3000 = bh := ⟨_, rfl⟩
  have h3 : bh.length ≤ 3000 := by rw [← hbh, List.length_take]; omega
  rw [hbh] at hown1
  clear hr hbh hlen
  obtain ⟨a1, c1, rfl, -, hc1, hr1⟩ := own_row hown1
  clear hown1
  go_wp2_with fail
  refine (few_any w1 ap cbp bp (hrp.below hb1) hlenp hcapp).mono ?_
  rintro e w2 ⟨v2, rfl, hown2, hb2⟩
  obtain ⟨ab, hab⟩ : ∃ ab, bp.take 3000 = ab := ⟨_, rfl⟩
  have h3b : ab.length ≤ 3000 := by rw [← hab, List.length_take]; omega
  rw [hab] at hown2
  clear hrp hab hlenp
  obtain ⟨a2, c2, rfl, -, hc2, hr2⟩ := own_row hown2
  have hcc := own_cap hown2
  have hr1 := hr1.below hb2
  have hb2 := hb1.trans (hb2.mono hb1.size)
  clear hown2 hb1
  obtain ⟨h, hh⟩ : ∃ h, ab.length / 2 = h := ⟨_, rfl⟩
  have e1 : (ab.length : Int).tdiv 2 = (h : Int) := by rw [Int.tdiv_eq_ediv_of_nonneg (by omega)]; omega
  have e3 : (ab.length : Int) / 2 = (h : Int) := by omega
  have hwq : IntKind.i64.wrap (h : Int) = (h : Int) := by rw [IntKind.wrap_i64]; omega
  have hhl : h ≤ ab.length := by omega
  have i1 : (0 : Int) ≤ (h : Int) := by omega
  have i2 : (h : Int) ≤ (ab.length : Int) := by omega
  have i3 : (h : Int) ≤ (c2 : Int) := by omega
  have i4 : (ab.length : Int) ≤ (c2 : Int) := by omega
  have i5 : h ≤ c2 := by omega
  obtain ⟨aq, haq⟩ : ∃ aq, (if c2 = h then a2 else Option.map (fun x => x.add h) a2) = aq := ⟨_, rfl⟩
  have hrq : Row w2 aq (ab.drop h) := by rw [← haq]; exact Row_drop hr2 hc2
  have hrt : Row w2 a2 (ab.take h) := Row_take hr2 h
  go_upto_region 2 with fail
  go_quiet (fail)
  have hb3 := below_drewN hb2 nq
  have hr13 := Row_drewN hr1 nq
  have hrq3 := Row_drewN hrq nq
  have hrt3 := Row_drewN hrt nq
  clear hr1 hrq hrt
  have hlh : (ab.take h).length = h := by rw [List.length_take]; omega
  have hlb : (ab.drop h).length = ab.length - h := List.length_drop
  have hlb3 : (ab.drop h).length ≤ 3000 := by omega
  have hla3 : (ab.take h).length ≤ 3000 := by omega
  rw [← hlb]
  generalize w2.drewN nq = w3 at hb3 hr13 hrq3 hrt3 ⊢
  generalize ab.drop h = be at hrq3 hlb3 ⊢
  clear hlb e1 e3 hwq i1 i2 i3 i4 haq hr2 hb2 hh hhl i5
  generalize ab.take h = ah at hrt3 hla3 hlh
  subst hlh
  go_wp2_with fail
  refine (frame_ok w3 a1 c1 bh (hT.below hb3 hT0) hr13 (by omega)).mono ?_
  rintro e w4 ⟨v4, rfl, hown4, hb4⟩
  have hr1 := hr13.below hb4
  have hrq := hrq3.below hb4
  have hrt := hrt3.below hb4
  clear hr13 hrq3 hrt3
  have hb4 := hb3.trans (hb4.mono hb3.size)
  have hfl := Cp.frame_len bh
  have HF : Hid (∀ r, Cp.fd (Cp.frame bh ++ r) = (0, bh.length)) := fun r => Cp.fd_frame (by omega) r
  have HC : Hid (∀ k, k < (Cp.frame bh).length → Cp.fd ((Cp.frame bh).take k) = (4, 0)) := fun k hk => Cp.fd_frame_cut (by omega) hk
  have HB : Hid (∀ r, ((Cp.frame bh ++ r).drop 12).take bh.length = bh) := frame_body bh
  generalize Cp.frame bh = f at *
  rw [← hfl] at hown4
  obtain ⟨a4, c4, rfl, -, hc4, hr4⟩ := own_row hown4
  have hcc4 := own_cap hown4
  have HL := mkH hfl
  have hf12 : 12 ≤ f.length := by omega
  have hf3 : f.length ≤ 3012 := by omega
  clear hown4 hb3 hfl
  have t0 : ((f.length : Int) < 12) = False := by simp; omega
  go_wp2_with (at_builtin; refine (wpList_append_own_src _ rfl (.tmp 45) (.tmp 46) 22 22 rfl w4.heap.size 5 (.int .u8 0) 1 1 Tryd.underlying22 info5 rfl (by decide) _ 0 [] rfl (World.ownsRow_made w4 #[] 0 (Nat.le_refl _) (Nat.zero_le _) rfl) _ ah.length (U ah) rfl ?hsrc ?h63 ?hby ?hbs ?_))
  case hsrc => exact Row.src (P := Tryd.prog) Tryd.underlying22 (hrt.below ((Below.refl w4.heap.size w4).alloc (Nat.le_refl _) (.cells #[] 5))) c2
  case h63 => unfold maxLen; omega
  case hby => omega
  case hbs => simp
  intro v5 w5 hown5 hgrow5
  have hb5 := below_own (World.ownsRow_made (e := 5) (size := 1) w4 #[] 0 (Nat.le_refl _) (Nat.zero_le _) rfl) hgrow5 ((Below.refl w4.heap.size w4).alloc (Nat.le_refl _) (.cells #[] 5)) (by simp)
  clear hgrow5
  go_wp2_with (at_builtin; refine (wpList_append_own_src _ rfl (.tmp 47) (.tmp 48) 22 22 rfl w4.heap.size 5 (.int .u8 0) 1 1 Tryd.underlying22 info5 rfl (by decide) _ ah.length (U ah) rfl hown5 _ f.length (U f) rfl ?hsrc2 ?h632 ?hby2 ?hbs2 ?_))
  case hsrc2 => exact Row.src (P := Tryd.prog) Tryd.underlying22 (hr4.below hb5) c4
  case h632 => unfold maxLen; omega
  case hby2 => omega
  case hbs2 => exact hb5.size
  intro v6 w6 hown6 hgrow6
  have hb6 := below_own hown5 hgrow6 hb5 hb5.size
  rw [← U_append] at hown6
  clear hown5 hgrow6 hb5
  go_wp2_with (at_builtin; refine (wpList_append_own_src _ rfl (.tmp 49) (.tmp 50) 22 22 rfl w4.heap.size 5 (.int .u8 0) 1 1 Tryd.underlying22 info5 rfl (by decide) _ (ah.length + f.length) (U (ah ++ f)) rfl hown6 _ be.length (U be) rfl ?hsrc3 ?h633 ?hby3 ?hbs3 ?_))
  case hsrc3 => exact Row.src (P := Tryd.prog) Tryd.underlying22 (hrq.below hb6) (c2 - ah.length)
  case h633 => unfold maxLen; omega
  case hby3 => omega
  case hbs3 => exact hb6.size
  intro v7 w7 hown7 hgrow7
  have hb7 := below_own hown6 hgrow7 hb6 hb6.size
  rw [← U_append] at hown7
  clear hown6 hgrow7 hb6 hrq hrt
  obtain ⟨a7, c7, rfl, hn7, hc7, hr7⟩ := own_row hown7
  have hcc7 : c7 ≤ 9223372036854775807 := own_cap (by rw [hn7] at hown7; exact hown7)
  have hr17 := hr1.below hb7
  have hr47 := hr4.below hb7
  have hb7 := hb4.trans (hb7.mono hb4.size)
  clear hown7 hr1 hr4 hb4
  have hN := next_ok w7 a7 (ah ++ f ++ be).length c7 ah.length (ah.length : Int) (ah ++ f ++ be) bh rfl (hT.below hb7 hT0) hr7 (by rw [← hn7]; omega) hc7 hcc7 (by rw [← hn7]; omega) rfl
    (by rw [List.append_assoc, List.drop_left]; exact HF.out be)
    (by rw [← List.drop_drop, List.append_assoc, List.drop_left]; exact HB.out be)
  clear hr7 HF HB hc7 hcc7
  generalize (ah ++ f ++ be).length = nn at *
  go_wp2_with fail
  refine hN.mono ?_
  rintro e w8 ⟨v8, rfl, hown8, hb8⟩
  clear hN
  obtain ⟨a8, c8, rfl, -, hc8, hr8⟩ := own_row hown8
  have hr18 := hr17.below hb8
  have hr48 := hr47.below hb8
  have hb8 := hb7.trans (hb8.mono hb7.size)
  clear hr17 hr47 hb7 hown8
  have hs1 := run_string (P := Tryd.prog) Tryd.underlying22 Tryd.underlying5 Tryd.underlying9 hr18 c1
  have hs2 := run_string (P := Tryd.prog) Tryd.underlying22 Tryd.underlying5 Tryd.underlying9 hr8 c8
  have hnx : ((ah.length + 12 + bh.length : Nat) : Int) = (ah.length : Int) + (f.length : Int) := by have := HL.out; omega
  obtain ⟨m1, m2, i, hi, hii⟩ := mod_name cut f.length (by omega)
  have t1 : ((f.length : Int) == 0) = false := by rw [beq_eq_false_iff_ne]; omega
  go_wp2_with fail
  have hN := next_err w8 a4 i c4 0 0 (f.take i) 4 rfl (hT.below hb8 hT0) (Row_take hr48 i) (by rw [List.length_take]; omega) (by rw [List.length_take]; omega) hcc4 (by omega) (by rw [List.length_take]; omega) (by rw [List.drop_zero]; exact HC.out i hi) (by omega)
  refine hN.mono ?_
  rintro e w9 ⟨rfl, hb9⟩
  have hb9 := hb8.trans (hb9.mono hb8.size)
  clear hN hs1 hs2 hnx HC hr18 hr48 hr8 hii m1 m2 HL
  go_wp2_with fail
  refine (works_any w9 (hT.below hb9 hT0)).mono ?_
  rintro e wa ⟨rfl, hba⟩
  go_wp2
  go_ret
  exact ⟨rfl, hb9.trans (hba.mono hb9.size)⟩
end Go.Proofs.YtjmhgifdkmglhaaDoor.Cb
