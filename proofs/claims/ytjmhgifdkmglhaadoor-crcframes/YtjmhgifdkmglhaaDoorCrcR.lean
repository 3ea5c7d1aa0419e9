/-
  The contracts of the document's own Next and Good.
-/
import Derived.Test.YtjmhgifdkmglhaaDoorCrcX
namespace Go.Proofs.YtjmhgifdkmglhaaDoor.Cr
open Go.RowKit Kt Cs Cw Cf Cn Cg Ck Cb
set_option linter.unusedVariables false

set_option maxHeartbeats 1000000 in
set_option maxRecDepth 20000 in
theorem refNext_arg (w : World) (ao : Option Addr) (n cap : Nat) (k : Int) (h : k < 0 ∨ (n : Int) < k) :
    Calls Tryd.prog 16 #[.slice ao n cap, .int .i64 k] w fun e w' => e = .returned (.tuple #[.slice none 0 0, .int .i64 0, .int .i64 2]) ∧ w' = w := by
  by_cases h0 : k < 0
  · have c1 : decide (k < 0) = true := by simpa using h0
    clear h h0
    go_enter Tryd.func16, Tryd.ntmps16
    go_wp2
    go_ret3
    exact ⟨rfl, rfl⟩
  · have c1 : decide (k < 0) = false := by simpa using h0
    have c2 : decide ((n : Int) < k) = true := by simp; omega
    clear h h0
    go_enter Tryd.func16, Tryd.ntmps16
    go_wp2
    go_ret3
    exact ⟨rfl, rfl⟩

set_option maxHeartbeats 1000000 in
set_option maxRecDepth 20000 in
theorem refNext_short (w : World) (ao : Option Addr) (n cap k : Nat) (hn : n ≤ 1000000000) (hk : k ≤ n) (h : n < k + 12) :
    Calls Tryd.prog 16 #[.slice ao n cap, .int .i64 k] w fun e w' => e = .returned (.tuple #[.slice none 0 0, .int .i64 0, .int .i64 4]) ∧ w' = w := by
  have c1 : decide ((k : Int) < 0) = false := by simp
  have c2 : decide ((n : Int) < (k : Int)) = false := by simp; omega
  have c3 : decide ((n : Int) - (k : Int) < 12) = true := by simp; omega
  go_enter Tryd.func16, Tryd.ntmps16
  go_wp2
  go_ret3
  exact ⟨rfl, rfl⟩

/-- The number of the first j bytes. -/
def pw (r : List UInt8) : Nat → Nat
  | 0 => 0
  | j + 1 => pw r j + (r.getD j 0).toNat * 256 ^ j
theorem pw_four (r : List UInt8) : pw r 4 = Cp.word r := by simp [pw, Cp.word]
theorem pw_lt (r : List UInt8) : ∀ j, pw r j < 256 ^ j
  | 0 => by simp [pw]
  | j + 1 => by
    have h1 := pw_lt r j
    have h2 : (r.getD j 0).toNat * 256 ^ j ≤ 255 * 256 ^ j := Nat.mul_le_mul_right _ (by have := Cp.u8_lt (r.getD j 0); omega)
    rw [pw, Nat.pow_succ]; omega
theorem own_below {w w' : World} {base e size n : Nat} {v : Value} {xs : List Value} (h : w.ownsRow base e size v n xs) (hb : Below w.heap.size w w') : w'.ownsRow base e size v n xs := by
  refine ⟨h.1, ?_⟩
  rcases h.2 with h1 | ⟨g, cap, cur, e1, e2, e3, e4⟩
  · exact .inl h1
  · have hlt : g < w.heap.size := (Array.getElem?_eq_some_iff.1 e3).1
    exact .inr ⟨g, cap, cur, e1, e2, by rw [hb.block g hlt]; exact e3, e4⟩
theorem str_ne (a b : List UInt8) : (!(S a).toList == (S b).toList) = decide (a ≠ b) := by
  rw [S_toList, S_toList]
  by_cases h : a = b <;> simp [h]
theorem put_inj {n : Nat} {r : List UInt8} (hn : n < 4294967296) (hr : 4 ≤ r.length) : Cp.put n = r.take 4 ↔ n = Cp.word r := by
  constructor
  · intro h
    have := Cp.word_put' hn
    rw [h, Cp.word_take r 4 (by omega)] at this
    exact this.symm
  · intro h
    obtain ⟨a, b, c, d, t, rfl⟩ := Cp.four hr
    rw [h, Cp.put_word]; rfl

set_option maxHeartbeats 1000000 in
set_option maxRecDepth 20000 in
theorem refNext_any (w : World) (b off d k m : Nat) (r : List UInt8) (hr : Row w (some ⟨b, off + k, none⟩) r) (hrl : r.length = m + 12) (hm : m ≤ 1000000) (hd : m ≤ d) (hcap : d + 12 + k ≤ 9223372036854775807) (hk : k ≤ 1000000000) :
    Calls Tryd.prog 16 #[.slice (some ⟨b, off, none⟩) (m + 12 + k) (d + 12 + k), .int .i64 k] w fun e w' => Below w.heap.size w w' ∧
      (((Cp.fd r).1 ≠ 0 ∧ e = .returned (.tuple #[.slice none 0 0, .int .i64 0, .int .i64 ((Cp.fd r).1 : Nat)])) ∨
       ((Cp.fd r).1 = 0 ∧ ∃ v, e = .returned (.tuple #[v, .int .i64 ((k + 12 + (Cp.fd r).2 : Nat) : Int), .int .i64 0]) ∧ w'.ownsRow w.heap.size 5 1 v (Cp.fd r).2 (U ((r.drop 12).take (Cp.fd r).2)))) := by
  have c1 : decide ((k : Int) < 0) = false := by simp
  have c2 : decide (((m + 12 + k : Nat) : Int) < (k : Int)) = false := by simp; omega
  go_enter Tryd.func16, Tryd.ntmps16
  go_wp2
  go_loop [7, 8, 9] (fun n wt i => ∃ j q t : Nat, j ≤ 4 ∧ i = .int .i64 j ∧ n = .int .i64 q ∧ wt = .int .i64 t ∧ t ≤ 4294967296 ∧ q < t ∧ Hid (t = 256 ^ j ∧ q = pw r j)) (fun _ _ i => 4 - (intOf i).toNat)
  case atStart => exact ⟨0, 0, 1, by omega, rfl, rfl, rfl, by omega, by omega, by simp [Hid, pw]⟩
  case round =>
    obtain ⟨j, q, t, hj, rfl, rfl, rfl, ht, hq, hH⟩ := hrel
    by_cases hj4 : j = 4
    · have t0 : decide ((j : Int) < 4) = false := by simp; omega
      have HZ : Hid (Cp.word r = q) := by
        have := hH.out.2
        rw [hj4, pw_four] at this
        exact this.symm
      have hq32 : q < 4294967296 := by have := Cp.word_lt r; rw [HZ.out] at this; exact this
      clear hH ht hq hj hj4
      have e4 : IntKind.i64.wrap ((k : Int) + 4) = (k : Int) + 4 := by rw [IntKind.wrap_i64]; omega
      have e8 : IntKind.i64.wrap ((k : Int) + 8) = (k : Int) + 8 := by rw [IntKind.wrap_i64]; omega
      have i0 : (0 : Int) ≤ (k : Int) := by omega
      have i1 : (k : Int) + 4 ≤ (d : Int) + 12 + (k : Int) := by omega
      have i2 : (k : Int) ≤ (k : Int) + 4 := by omega
      have i3 : (k : Int) + 8 ≤ (d : Int) + 12 + (k : Int) := by omega
      have i4 : (k : Int) + 4 ≤ (k : Int) + 8 := by omega
      have i5 : (0 : Int) ≤ (k : Int) + 4 := by omega
      obtain ⟨p4, hp4⟩ : ∃ p4, k + 4 = p4 := ⟨_, rfl⟩
      have n1 : ¬ (d + 12 + k = p4) := by omega
      have n2 : ((k : Int) + 4).toNat = p4 := by omega
      have n3 : ((k : Int) + 8).toNat - p4 = 4 := by omega
      have n4 : p4 - k = 4 := by omega
      have n5 : d + 12 + k - p4 = d + 8 := by omega
      have HP4 := mkH hp4
      clear hp4
      obtain ⟨s1, hs1⟩ : ∃ s1, Cp.sum (r.take 4) = s1 := ⟨_, rfl⟩
      have hs1l : s1 < 4294967296 := by rw [← hs1]; exact Cp.sum_lt _
      have HS1 := mkH hs1
      have HR4 : Hid (∀ W, Below w.heap.size w W → (convert 22 9 (.slice (some ⟨b, off + p4, none⟩) 4 (d + 8))).run Tryd.prog W = .ok (.string (S ((r.drop 4).take 4))) W) := by
        intro W hW
        have h1 : Row w (some ⟨b, off + p4, none⟩) ((r.drop 4).take 4) := by
          rw [← HP4.out, ← Nat.add_assoc]; exact Row_take (Row_at hr 4) 4
        have := run_string (P := Tryd.prog) Tryd.underlying22 Tryd.underlying5 Tryd.underlying9 (h1.below hW) (d + 8)
        rw [show ((r.drop 4).take 4).length = 4 by rw [List.length_take, List.length_drop]; omega] at this
        exact this
      have hr4 : Row w (some ⟨b, off + k, none⟩) (r.take 4) := Row_take hr 4
      have hl4 : (r.take 4).length = 4 := by rw [List.length_take]; omega
      have hRS : ∀ W, Below w.heap.size w W → ∀ c, Calls Tryd.prog 10 #[.slice (some ⟨b, off + k, none⟩) 4 c] W fun e w' => e = .returned (.int .u32 (s1 : Nat)) ∧ w' = W := by
        intro W hW c
        have := refSum_any W (some ⟨b, off + k, none⟩) c (r.take 4) (hr4.below hW) (by omega)
        rw [hl4, HS1.out] at this
        exact this
      have HRS := mkH hRS
      clear hs1 hRS hr4 hl4
      go_upto_region 12 with fail
      have hv0 := fun nq => HR4.out (w.drewN nq) (by (repeat (first | exact Below.refl _ _ | exact hu | refine Below.drew ?_ | refine below_drewN ?_ _ | refine Below.alloc ?_ (by simp) _)))
      have hv1 := HR4.out w.drew (by (repeat (first | exact Below.refl _ _ | exact hu | refine Below.drew ?_ | refine below_drewN ?_ _ | refine Below.alloc ?_ (by simp) _)))
      have hv2 := HR4.out w (by (repeat (first | exact Below.refl _ _ | exact hu | refine Below.drew ?_ | refine below_drewN ?_ _ | refine Below.alloc ?_ (by simp) _)))
      go_cut [0, 1, 7, 56] (fun v0 v1 v7 v56 wc => v0 = .slice (some ⟨b, off, none⟩) (m + 12 + k) (d + 12 + k) ∧ v1 = .int .i64 k ∧ v7 = .int .i64 q ∧ v56 = .bool (decide (Cp.put s1 ≠ (r.drop 4).take 4)) ∧ Below w.heap.size w wc)
      case first =>
       go_region_with (first
        | (go_at_call 10; refine (HRS.out _ (by (repeat (first | exact Below.refl _ _ | exact hu | refine Below.drew ?_ | refine below_drewN ?_ _ | refine Below.alloc ?_ (by simp) _))) _).mono ?_; rintro e u1 ⟨rfl, rfl⟩)
        | (go_at_call 21; refine (put_any _ w.heap.size (.slice none 0 0) 0 s1 [] (by simpa [U] using World.ownsRow_nil _ _ _ _) (by simp) (by omega) hs1l).mono ?_; rintro e u2 ⟨v2, rfl, hown2, hu0⟩; rw [List.nil_append] at hown2; have hu : Below w.heap.size w u2 := (by first | exact hu0 | exact Below.trans (by (repeat (first | exact Below.refl _ _ | exact hu | refine Below.drew ?_ | refine below_drewN ?_ _ | refine Below.alloc ?_ (by simp) _))) hu0); obtain ⟨a2, c2, rfl, -, hc2, hr2⟩ := own_row hown2; have hcv := run_string (P := Tryd.prog) Tryd.underlying22 Tryd.underlying5 Tryd.underlying9 hr2 c2; have hv3 := HR4.out u2 hu))
       all_goals
        go_wp2_with fail
        go_meet
        refine ⟨rfl, rfl, rfl, ?_, ?_⟩
        · rw [str_ne]
        · (repeat (first | exact hu | refine Below.drew ?_ | refine below_drewN ?_ _))
      case rest =>
       obtain ⟨hx0, hx1, hx7, hx56, hB⟩ := hcut
       subst hx0 hx1 hx7 hx56
       have hpi := put_inj (r := r.drop 4) hs1l (by rw [List.length_drop]; omega)
       clear hv0 hv1 hv2 HR4 HRS e4 e8 i1 i2 i3 i4 i5 n1 n2 n3 n4 n5 HP4 c1 c2 t0
       by_cases h1 : s1 = Cp.word (r.drop 4)
       · have t1 : decide (Cp.put s1 ≠ (r.drop 4).take 4) = false := by rw [decide_eq_false_iff_not]; exact fun h => h (hpi.2 h1)
         have H1 : Hid (Cp.sum (r.take 4) = Cp.word (r.drop 4)) := by unfold Hid; rw [HS1.out, h1]
         rw [t1]
         clear h1 hpi HS1 t1 hs1l
         by_cases h2 : 65536 < q
         · have t2 : decide ((65536 : Int) < (q : Int)) = true := by simp; omega
           have HE : Hid (Cp.fd r = (3, 0)) := by unfold Hid; exact Cp.fd_long (by omega) H1.out (by rw [HZ.out]; exact h2)
           clear hr HZ H1
           go_wp2
           go_ret3
           exact ⟨hB, .inl (by rw [HE.out]; exact ⟨by simp, rfl⟩)⟩
         · have t2 : decide ((65536 : Int) < (q : Int)) = false := by simp; omega
           have hq2 : (q : Int) ≤ 65536 := by omega
           by_cases h3 : m < q
           · have t3 : (m : Int) < (q : Int) := by omega
             have HE : Hid (Cp.fd r = (4, 0)) := by unfold Hid; exact Cp.fd_cut (by omega) H1.out (by rw [HZ.out]; omega) (by rw [HZ.out]; omega)
             clear hr HZ H1
             go_wp2
             go_ret3
             exact ⟨hB, .inl (by rw [HE.out]; exact ⟨by simp, rfl⟩)⟩
           · have t3 : (q : Int) ≤ (m : Int) := by omega
             have t4 : (q : Int) ≤ (d : Int) := by omega
             obtain ⟨p12, hp12⟩ : ∃ p12, k + 12 = p12 := ⟨_, rfl⟩
             have n1 : ((k : Int) + 12).toNat = p12 := by omega
             have n2 : ((k : Int) + 12 + (q : Int)).toNat - p12 = q := by omega
             have n3 : d + 12 + k - p12 = d := by omega
             have i1 : (0 : Int) ≤ (k : Int) + 12 := by omega
             have i2 : (k : Int) + 12 ≤ (k : Int) + 12 + (q : Int) := by omega
             have i3 : (k : Int) + 12 + (q : Int) ≤ (d : Int) + 12 + (k : Int) := by omega
             obtain ⟨aq, haq⟩ : ∃ aq, (if d + 12 + k = p12 then some (⟨b, off, none⟩ : Addr) else some ⟨b, off + p12, none⟩) = aq := ⟨_, rfl⟩
             have hbody : Row w aq ((r.drop 12).take q) := by
               rcases Nat.eq_zero_or_pos d with h0 | h0
               · have e0 : q = 0 := by omega
                 rw [e0, List.take_zero]; exact Row.nil _ _
               · rw [← haq, if_neg (by omega), ← hp12, ← Nat.add_assoc]
                 exact Row_take (Row_at hr 12) q
             have hbl : ((r.drop 12).take q).length = q := by rw [List.length_take, List.length_drop]; omega
             obtain ⟨body, hbd⟩ : ∃ body, (r.drop 12).take q = body := ⟨_, rfl⟩
             rw [hbd] at hbody hbl
             have HP12 := mkH hp12
             have HBD := mkH hbd
             have HBL := mkH hbl
             clear hp12 hbd hbl
             have hsrc := Row.src (P := Tryd.prog) Tryd.underlying22 ((hbody.below hB).below ((Below.refl wc.heap.size wc).alloc (Nat.le_refl _) (.cells #[] 5))) d
             rw [HBL.out] at hsrc
             go_wp2_with (at_builtin; refine (wpList_append_own_src _ rfl (.tmp 66) (.tmp 74) 22 22 rfl w.heap.size 5 (.int .u8 0) 1 1 Tryd.underlying22 info5 rfl (by decide) _ 0 [] rfl (World.ownsRow_made wc #[] 0 hB.size (Nat.zero_le _) rfl) _ q (U body) rfl hsrc ?h63 ?hby ?hbs ?_))
             case h63 => unfold maxLen; omega
             case hby => omega
             case hbs => have := hB.size; simp; omega
             intro v5 w5 hown5 hgrow5
             have hB5 := below_own (World.ownsRow_made (e := 5) (size := 1) wc #[] 0 hB.size (Nat.zero_le _) rfl) hgrow5 (hB.alloc hB.size (.cells #[] 5)) (by have := hB.size; simp; omega)
             have hown5 : w5.ownsRow w.heap.size 5 1 v5 q (U body) := by simpa using hown5
             clear hgrow5 hsrc hB hbody haq
             obtain ⟨a5, c5, rfl⟩ := own_form hown5
             obtain ⟨-, hc5, hr5⟩ := Row.own hown5
             have e8 : IntKind.i64.wrap ((k : Int) + 8) = (k : Int) + 8 := by rw [IntKind.wrap_i64]; omega
             have e12 : IntKind.i64.wrap ((k : Int) + 12) = (k : Int) + 12 := by rw [IntKind.wrap_i64]; omega
             obtain ⟨p8, hp8⟩ : ∃ p8, k + 8 = p8 := ⟨_, rfl⟩
             have j1 : (0 : Int) ≤ (k : Int) + 8 := by omega
             have j2 : (k : Int) + 8 ≤ (k : Int) + 12 := by omega
             have j3 : (k : Int) + 12 ≤ (d : Int) + 12 + (k : Int) := by omega
             have j4 : ¬ (d + 12 + k = p8) := by omega
             have j5 : ((k : Int) + 8).toNat = p8 := by omega
             have j6 : p12 - p8 = 4 := by have := HP12.out; omega
             have j7 : d + 12 + k - p8 = d + 4 := by omega
             have HP8 := mkH hp8
             obtain ⟨s2, hs2⟩ : ∃ s2, Cp.sum body = s2 := ⟨_, rfl⟩
             have hs2l : s2 < 4294967296 := by rw [← hs2]; exact Cp.sum_lt _
             have HS2 := mkH hs2
             have hr8 : Row w5 (some ⟨b, off + p8, none⟩) ((r.drop 8).take 4) := by
               rw [← HP8.out, ← Nat.add_assoc]; exact Row_take (Row_at (hr.below hB5) 8) 4
             have HR8 : Hid (∀ W, Below w5.heap.size w5 W → (convert 22 9 (.slice (some ⟨b, off + p8, none⟩) 4 (d + 4))).run Tryd.prog W = .ok (.string (S ((r.drop 8).take 4))) W) := by
               intro W hW
               have := run_string (P := Tryd.prog) Tryd.underlying22 Tryd.underlying5 Tryd.underlying9 (hr8.below hW) (d + 4)
               rw [show ((r.drop 8).take 4).length = 4 by rw [List.length_take, List.length_drop]; omega] at this
               exact this
             have HRS : Hid (∀ W, Below w5.heap.size w5 W → Calls Tryd.prog 10 #[.slice a5 q c5] W fun e w' => e = .returned (.int .u32 (s2 : Nat)) ∧ w' = W) := by
               intro W hW
               have := refSum_any W a5 c5 body (hr5.below hW) (by rw [HBL.out]; omega)
               rw [HBL.out, HS2.out] at this
               exact this
             clear hp8 hs2 hr5 hr8
             have hv0 := fun nq => HR8.out (w5.drewN nq) (by (repeat (first | exact Below.refl _ _ | exact hu | refine Below.drew ?_ | refine below_drewN ?_ _ | refine Below.alloc ?_ (by simp) _)))
             have hv1 := HR8.out w5.drew (by (repeat (first | exact Below.refl _ _ | exact hu | refine Below.drew ?_ | refine below_drewN ?_ _ | refine Below.alloc ?_ (by simp) _)))
             have hv2 := HR8.out w5 (by (repeat (first | exact Below.refl _ _ | exact hu | refine Below.drew ?_ | refine below_drewN ?_ _ | refine Below.alloc ?_ (by simp) _)))
             go_upto_region 19 with fail
             go_cut [1, 7, 10, 87] (fun v1 v7 v10 v87 wd => v1 = .int .i64 k ∧ v7 = .int .i64 q ∧ v10 = .slice a5 q c5 ∧ v87 = .bool (decide (Cp.put s2 ≠ (r.drop 8).take 4)) ∧ Below w5.heap.size w5 wd)
             case first =>
               go_region_with (first
                 | (go_at_call 10; refine (HRS.out _ (by (repeat (first | exact Below.refl _ _ | exact hu | refine Below.drew ?_ | refine below_drewN ?_ _ | refine Below.alloc ?_ (by simp) _)))).mono ?_; rintro e u1 ⟨rfl, rfl⟩)
                 | (go_at_call 21; refine (put_any _ w5.heap.size (.slice none 0 0) 0 s2 [] (by simpa [U] using World.ownsRow_nil _ _ _ _) (by simp) (by omega) hs2l).mono ?_; rintro e u2 ⟨v2, rfl, hown2, hu0⟩; rw [List.nil_append] at hown2; have hu : Below w5.heap.size w5 u2 := (by first | exact hu0 | exact Below.trans (by (repeat (first | exact Below.refl _ _ | exact hu | refine Below.drew ?_ | refine below_drewN ?_ _ | refine Below.alloc ?_ (by simp) _))) hu0); obtain ⟨a2, c2, rfl, -, hc2, hr2⟩ := own_row hown2; have hcv := run_string (P := Tryd.prog) Tryd.underlying22 Tryd.underlying5 Tryd.underlying9 hr2 c2; have hv3 := HR8.out u2 hu))
               all_goals
                 go_wp2_with fail
                 go_meet
                 refine ⟨rfl, rfl, rfl, ?_, ?_⟩
                 · rw [str_ne]
                 · (repeat (first | exact hu | refine Below.drew ?_ | refine below_drewN ?_ _))
             case rest =>
               obtain ⟨hx1, hx7, hx10, hx87, hBd⟩ := hcut
               subst hx1 hx7 hx10 hx87
               have hpi := put_inj (r := r.drop 8) hs2l (by rw [List.length_drop]; omega)
               have hfin := hB5.trans (hBd.mono hB5.size)
               have hown6 := own_below hown5 hBd
               clear hv0 hv1 hv2 HR8 HRS e8 e12 j1 j2 j3 j4 j5 j6 j7 n1 n2 n3 i1 i2 i3 HP8 HP12 hown5 hBd hB5
               by_cases h4 : s2 = Cp.word (r.drop 8)
               · have t5 : decide (Cp.put s2 ≠ (r.drop 8).take 4) = false := by rw [decide_eq_false_iff_not]; exact fun h => h (hpi.2 h4)
                 have HE : Hid (Cp.fd r = (0, q)) := by
                   unfold Hid
                   rw [Cp.fd_ok (by omega) H1.out (by rw [HZ.out]; omega) (by rw [HZ.out]; omega) (by rw [HZ.out, HBD.out, HS2.out]; exact h4), HZ.out]
                 rw [t5]
                 clear hr HZ H1 HS2 h4 hpi t5
                 go_wp2
                 go_ret3
                 refine ⟨hfin, .inr ?_⟩
                 rw [HE.out]
                 have hsum : (k : Int) + 12 + (q : Int) = ((k + 12 + q : Nat) : Int) := by omega
                 refine ⟨rfl, _, by rw [← hsum]; rfl, ?_⟩
                 simp only [HBD.out]
                 exact hown6
               · have t5 : decide (Cp.put s2 ≠ (r.drop 8).take 4) = true := by rw [decide_eq_true_eq]; exact fun h => h4 (hpi.1 h)
                 have HE : Hid (Cp.fd r = (6, 0)) := by
                   unfold Hid
                   exact Cp.fd_sum2 (by omega) H1.out (by rw [HZ.out]; omega) (by rw [HZ.out]; omega) (by rw [HZ.out, HBD.out, HS2.out]; exact h4)
                 rw [t5]
                 clear hr HZ H1 HS2 h4 hpi t5
                 go_wp2
                 go_ret3
                 exact ⟨hfin, .inl (by rw [HE.out]; exact ⟨by simp, rfl⟩)⟩
       · have t1 : decide (Cp.put s1 ≠ (r.drop 4).take 4) = true := by rw [decide_eq_true_eq]; exact fun h => h1 (hpi.1 h)
         have HE : Hid (Cp.fd r = (6, 0)) := by unfold Hid; exact Cp.fd_sum1 (by omega) (by rw [HS1.out]; exact h1)
         rw [t1]
         clear hr HS1 h1 hpi t1
         go_wp2
         go_ret3
         exact ⟨hB, .inl (by rw [HE.out]; exact ⟨by simp, rfl⟩)⟩
    · have hj3 : j < 4 := by omega
      have t0 : decide ((j : Int) < 4) = true := by simp; omega
      obtain ⟨b', off', e, hc⟩ := hr (by omega)
      cases e
      obtain ⟨c, hcc⟩ : ∃ c, (r.getD j 0).toNat = c := ⟨_, rfl⟩
      have hcell : w.cell? ⟨b, off + (k + j), none⟩ = some (.int .u8 (c : Int)) := by rw [← Nat.add_assoc, hc j (by omega), hcc]
      have hc256 : c < 256 := by rw [← hcc]; exact Cp.u8_lt _
      have h256 : 256 ^ (j + 1) ≤ 256 ^ 4 := Nat.pow_le_pow_right (by omega) (by omega)
      have h1 : t * 256 ≤ 4294967296 := by rw [hH.out.1, ← Nat.pow_succ]; exact h256
      obtain ⟨ct, hct⟩ : ∃ ct, c * t = ct := ⟨_, rfl⟩
      have hctl : ct ≤ 255 * t := by rw [← hct]; exact Nat.mul_le_mul_right _ (by omega)
      have ect : (c : Int) * (t : Int) = (ct : Int) := by rw [← hct]; push_cast; rfl
      have HH : Hid (t * 256 = 256 ^ (j + 1) ∧ q + ct = pw r (j + 1)) := by
        unfold Hid
        refine ⟨by rw [hH.out.1, Nat.pow_succ], ?_⟩
        rw [pw, ← hct, ← hcc, ← hH.out.1, ← hH.out.2]
      clear hc hcc hH hct h256
      go_wp2
      go_round
      case rel => exact ⟨j + 1, q + ct, t * 256, by omega, by go_num, by go_num, by go_num, by omega, by omega, HH⟩
      case measure => simp [intOf]; omega
end Go.Proofs.YtjmhgifdkmglhaaDoor.Cr
