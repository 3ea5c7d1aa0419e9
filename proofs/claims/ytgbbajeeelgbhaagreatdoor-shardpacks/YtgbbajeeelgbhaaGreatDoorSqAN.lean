/-
  GpD, joined by mrg.py.
-/
import Derived.Test.YtgbbajeeelgbhaaGreatDoorSqAM
import Derived.Lib.ConvBytes

namespace Go.Proofs.YtgbbajeeelgbhaaGreatDoor.Gd
open Go.RowKit Kt Gf Gp Gr Gk Ga Gs Gb Gc
set_option linter.unusedVariables false
set_option linter.unusedSimpArgs false
set_option maxRecDepth 20000

/-- The token that counts. -/
def tkn (token body : ByteArray) : ByteArray := if token = ⟨#[]⟩ then S (Di.tok body.data.toList) else token
theorem conv_any (w : World) (s : ByteArray) (hs : s.size ≤ 1000000000) : ∃ W' c, (convert 9 41 (.string s)).run Tryz.prog w = .ok (.slice (some ⟨w.heap.size, 0, none⟩) s.data.toList.length c) W' ∧ Row W' (some ⟨w.heap.size, 0, none⟩) s.data.toList ∧ Below w.heap.size w W' ∧ w.heap.size < W'.heap.size ∧ s.data.toList.length ≤ c ∧ c ≤ 9223372036854775807 := by
  have hsz : s.data.toList.length = s.size := by simp
  refine ⟨_, grownCap w s.size 0 5, by rw [hsz]; exact Lib.run_convert_string_bytes (P := Tryz.prog) w 9 41 5 s Tryz.underlying9 Tryz.underlying41 Tryz.underlying5, ?_, ⟨?_, ?_, ?_, ?_, fun k hk => Lib.bytesWorld_at_old w 5 s k hk⟩, ?_, ?_, ?_⟩
  · intro _
    refine ⟨_, 0, rfl, fun i hi => ?_⟩
    rw [Nat.zero_add, Lib.bytesWorld_cell w 5 s i (by omega)]
  · simp [Lib.bytesWorld, World.freeze, World.alloc, World.drew, -World.alloc_eq, -World.drew_eq]
  · simp [Lib.bytesWorld, World.freeze, World.alloc, World.drew, -World.alloc_eq, -World.drew_eq]
  · simp [Lib.bytesWorld, World.freeze, World.alloc, World.drew, -World.alloc_eq, -World.drew_eq]
  · rw [Lib.bytesWorld_size]; omega
  · rw [Lib.bytesWorld_size]; omega
  · rw [hsz]; exact grownCap_ge _ _ _ _
  · have := grownCap_le_maxLen w s.size 0 5 (by unfold maxLen; omega)
    unfold maxLen at this
    exact Nat.le_trans this (by omega)
theorem find_idx {α : Type} (p : α → Bool) (l : List α) (i : Nat) (x : α) (h : idx p l = some i) (hx : l[i]? = some x) : l.find? p = some x := by
  rw [← idx_find, h]; simpa using hx
theorem find_none {α : Type} (p : α → Bool) (l : List α) (h : idx p l = none) : l.find? p = none := by
  rw [← idx_find, h]; rfl
theorem ok_send {g : G} (h : OkG g) {now frm : Int} (hn : Sm now) (hf : Sm frm) (hx : g.next + 1 ≤ 1152921504606846976) (body tok : ByteArray) : OkG (sendG g now frm body tok) := by
  unfold sendG
  split
  · exact h
  · split
    · exact h
    · obtain ⟨h1, h2, h3⟩ := h
      have z : Sm 0 := ⟨by omega, by omega⟩
      refine ⟨⟨by unfold Sm at h1; show 0 ≤ g.next + 1; omega, hx⟩, fun m hm => ?_, fun m hm => ?_⟩
      · rcases List.mem_append.1 hm with hm | hm
        · exact h2 m hm
        · rw [List.mem_singleton.1 hm]; exact ⟨h1, hn, z, z, hf⟩
      · rcases List.mem_append.1 hm with hm | hm
        · exact h3 m hm
        · rw [List.mem_singleton.1 hm]; exact ⟨h1, hn⟩

set_option maxHeartbeats 4000000 in
theorem Send_tok (w : World) (g : G) (ka : Option Addr) (kc : Nat) (ma : Option Addr) (mc : Nat) (h : Gl w g ka kc ma mc) (hk : g.kept.length ≤ 1000000000) (hm : g.marks.length ≤ 1000000000) (ho : Sm g.next) (now frm : Int) (body token : ByteArray) (htk : token ≠ ⟨#[]⟩) (T : ByteArray) (hTk : tkn token body = T) :
    Calls Tryz.prog 267 #[.agg (gC g ka kc ma mc), .int .i64 now, .int .i64 frm, .string body, .string token] w fun e w' => ∃ ka' kc' ma' mc', e = .returned (.tuple #[.agg (gC (sendG g now frm body T) ka' kc' ma' mc'), .int .i64 (sendN g T), .int .i64 (sendE g T)]) ∧ Go' w.heap.size w' (sendG g now frm body T) ka' kc' ma' mc' ∧ Below w.heap.size w w' := by
  have HL := mkH h
  obtain ⟨nx, kp, mk, at'⟩ := g
  have HGe : Hid (∃ gg, sendG ⟨nx, kp, mk, at'⟩ now frm body T = gg) := ⟨_, rfl⟩
  obtain ⟨gg, hgg⟩ := HGe
  obtain ⟨sn, hsn⟩ : ∃ x, sendN ⟨nx, kp, mk, at'⟩ T = x := ⟨_, rfl⟩
  obtain ⟨se, hse⟩ : ∃ x, sendE ⟨nx, kp, mk, at'⟩ T = x := ⟨_, rfl⟩
  have HGG := mkH hgg
  have HSN := mkH hsn
  have HSE := mkH hse
  rw [hgg, hsn, hse]
  simp only [gC] at hk hm ho ⊢
  have hA := (((Below.refl w.heap.size w).alloc (Nat.le_refl _) (.cells #[Value.int .i64 nx, .slice ka kp.length kc, .slice ma mk.length mc, .string at'] 126)).alloc (by simp) (.cells #[.string token] 9)).alloc (by simp; omega) (.cells #[.int .i64 0, .slice none 0 0, .slice none 0 0, .string ⟨#[]⟩] 126)
  have hc0 := ((Bx.new w #[Value.int .i64 nx, .slice ka kp.length kc, .slice ma mk.length mc, .string at'] 126).alloc (.cells #[.string token] 9)).alloc (.cells #[.int .i64 0, .slice none 0 0, .slice none 0 0, .string ⟨#[]⟩] 126)
  have hc1 := (Bx.new1 w (.cells #[Value.int .i64 nx, .slice ka kp.length kc, .slice ma mk.length mc, .string at'] 126) #[.string token] 9).alloc (.cells #[.int .i64 0, .slice none 0 0, .slice none 0 0, .string ⟨#[]⟩] 126)
  have hc2 := Bx.new2 w (.cells #[Value.int .i64 nx, .slice ka kp.length kc, .slice ma mk.length mc, .string at'] 126) (.cells #[.string token] 9) #[.int .i64 0, .slice none 0 0, .slice none 0 0, .string ⟨#[]⟩] 126
  have hsz : (((w.alloc (.cells #[Value.int .i64 nx, .slice ka kp.length kc, .slice ma mk.length mc, .string at'] 126)).alloc (.cells #[.string token] 9)).alloc (.cells #[.int .i64 0, .slice none 0 0, .slice none 0 0, .string ⟨#[]⟩] 126)).heap.size = w.heap.size + 3 := by simp
  have HA := mkH hA
  have HC0 := mkH hc0
  have HC1 := mkH hc1
  have HC2 := mkH hc2
  have HSZ := mkH hsz
  clear h hA hc0 hc1 hc2 hsz hgg hsn hse
  have hqe : token.toList.isEmpty = false := by
    rw [ByteArray.toList_eq]
    obtain ⟨⟨l⟩⟩ := token
    cases l with
    | nil => exact absurd rfl htk
    | cons a t => rfl
  have hTk2 : token = T := by rw [← hTk]; unfold tkn; rw [if_neg htk]
  subst hTk2
  clear hTk htk
  go_enter Tryz.func267, Tryz.ntmps267
  go_wp2_with fail
  generalize ((w.alloc (.cells #[Value.int .i64 nx, .slice ka kp.length kc, .slice ma mk.length mc, .string at'] 126)).alloc (.cells #[.string token] 9)).alloc (.cells #[.int .i64 0, .slice none 0 0, .slice none 0 0, .string ⟨#[]⟩] 126) = w0 at *
  have h3 := HSZ.out
  have hs0 : w.heap.size + 3 ≤ w0.heap.size := by omega
  obtain ⟨R, hR⟩ : ∃ R, w.heap.size + 1 + 1 = R := ⟨_, rfl⟩
  rw [hR] at HC2 ⊢
  obtain ⟨C1, hC1⟩ : ∃ R, w.heap.size + 1 = R := ⟨_, rfl⟩
  rw [hC1] at HC1 ⊢
  have r1 : w.heap.size < C1 := by omega
  have r2 : C1 < R := by omega
  have r3 : R < w0.heap.size := by omega
  clear hR hC1
  refine (copyOf_any w0 ⟨nx, kp, mk, at'⟩ ka kc ma mc (HL.out.below HA.out) hk hm).mono ?_
  rintro e w1 ⟨ka1, kc1, ma1, mc1, rfl, hg1, hb1⟩
  simp only [gC]
  have hal : Below w1.heap.size w1 (w1.alloc (.cells #[Value.int .i64 nx, .slice ka1 kp.length kc1, .slice ma1 mk.length mc1, .string at'] 126)) := (Below.refl _ w1).alloc (Nat.le_refl _) _
  have hsz1 := hb1.size
  have HB := mkH (Bx.new w1 #[Value.int .i64 nx, .slice ka1 kp.length kc1, .slice ma1 mk.length mc1, .string at'] 126)
  have HG2 := mkH (hg1.below hal)
  have HC0' := mkH ((HC0.out.bel hb1).bel hal)
  have HC1' := mkH ((HC1.out.bel hb1).bel hal)
  have HC2' := mkH ((HC2.out.bel hb1).bel hal)
  have HA1 : Hid (Below w.heap.size w (w1.alloc (.cells #[Value.int .i64 nx, .slice ka1 kp.length kc1, .slice ma1 mk.length mc1, .string at'] 126))) := (HA.out.trans (hb1.mono (by omega))).alloc (by omega) _
  have hsz2 : (w1.alloc (.cells #[Value.int .i64 nx, .slice ka1 kp.length kc1, .slice ma1 mk.length mc1, .string at'] 126)).heap.size = w1.heap.size + 1 := by simp
  obtain ⟨m0, m1, m2, m3, -⟩ := HC0'.out.four
  have hn1 : ¬ w.heap.size = w1.heap.size := by omega
  clear hg1 hb1 hal HC0 HC1 HC2 HA
  go_wp2_with fail
  generalize w1.alloc (.cells #[Value.int .i64 nx, .slice ka1 kp.length kc1, .slice ma1 mk.length mc1, .string at'] 126) = w2 at *
  refine (idxSend w2 ma mc mk (HL.out.m.below HA1.out) hm (fun m => decide (m.tok = token)) C1 (fun W x hb hx => send1_any W x C1 token ((HC1'.out.bel hb).cell 0 _ rfl))).mono ?_
  rintro e w3 ⟨rfl, hb3⟩
  have HO3 := mkH (HB.out.bel hb3)
  have HR3 := mkH (HC2'.out.bel hb3)
  have HC13 := mkH (HC1'.out.bel hb3)
  have HC03 := mkH (HC0'.out.bel hb3)
  have HG3 := mkH (HG2.out.below hb3)
  have HA3 : Hid (Below w.heap.size w w3) := HA1.out.trans (hb3.mono HA1.out.size)
  have HM3 := mkH (HL.out.m.below HA3.out)
  obtain ⟨d0, d1, d2, d3, f0, f1, f2, f3⟩ := HO3.out.four
  obtain ⟨e0, e1, e2, e3, g0, g1, g2, g3⟩ := HR3.out.four
  obtain ⟨l0, l1, l2, l3, -⟩ := HC03.out.four
  have hcT := HC13.out.cell 0 _ rfl
  have hs3 := hb3.size
  have n1 : ¬ w1.heap.size = R := by omega
  have n2 : ¬ R = w1.heap.size := by omega
  have n3 : ¬ w.heap.size = R := by omega
  have n4 : ¬ C1 = R := by omega
  have n5 : ¬ C1 = w1.heap.size := by omega
  clear HB HC0' HC1' HC2' HG2 HA1 hb3 m0 m1 m2 m3
  rcases idx_spec (fun m : M => decide (m.tok = token)) mk with ⟨he, hall⟩ | ⟨i0, x0, he, hx0, hp0, hall⟩
  · have hie : idxI (fun m : M => decide (m.tok = token)) mk = -1 := by unfold idxI; rw [he]
    have HFN := mkH (find_none _ _ he)
    rw [hie]
    clear he hall hie
    by_cases hful : 12 ≤ kp.length ∨ 40 ≤ mk.length
    · have HFU := mkH hful
      have q1 : gg = ⟨nx, kp, mk, at'⟩ := by rw [← HGG.out]; unfold sendG; rw [HFN.out]; simp only; rw [if_pos hful]
      have q2 : sn = 0 := by rw [← HSN.out]; unfold sendN; rw [HFN.out]; simp only; rw [if_pos hful]
      have q3 : se = 7 := by rw [← HSE.out]; unfold sendE; rw [HFN.out]; simp only; rw [if_pos hful]
      subst q1 q2 q3
      clear HGG HSN HSE
      by_cases h12 : 12 ≤ kp.length
      · have t1 : (12 : Int) ≤ (kp.length : Int) := by omega
        have t2 : decide ((12 : Int) ≤ (kp.length : Int)) = true := by simp; omega
        go_wp2
        obtain ⟨hR7, hF7⟩ := HR3.out.sAll (v0 := .int .i64 nx) (v1 := .slice ka1 kp.length kc1) (v2 := .slice ma1 mk.length mc1) (v3 := .string at')
        generalize (((w3.setCell ⟨R, 0, none⟩ (.int .i64 nx)).setCell ⟨R, 1, none⟩ (.slice ka1 kp.length kc1)).setCell ⟨R, 2, none⟩ (.slice ma1 mk.length mc1)).setCell ⟨R, 3, none⟩ (.string at') = w7 at *
        refine bodyPost_ret (res_ctt rfl _ _ _ rfl rfl rfl (loadG hR7)) rfl ⟨ka1, kc1, ma1, mc1, rfl, ⟨?_, ?_⟩, ?_⟩
        · exact own_mono (own_fr HG3.out.k hF7 (fun k hk hkw => by have := (HG3.out.k.lt k hk).1; omega)) (by omega)
        · exact own_mono (own_fr HG3.out.m hF7 (fun k hk hkw => by have := (HG3.out.m.lt k hk).1; omega)) (by omega)
        · exact below_fr HA3.out hF7 (by intro k hk; omega) (Nat.le_refl _)
      · have t1 : ¬ (12 : Int) ≤ (kp.length : Int) := by omega
        have t2 : decide ((12 : Int) ≤ (kp.length : Int)) = false := by simp; omega
        have t3 : (40 : Int) ≤ (mk.length : Int) := by omega
        have t4 : decide ((40 : Int) ≤ (mk.length : Int)) = true := by simp; omega
        go_wp2
        obtain ⟨hR7, hF7⟩ := HR3.out.sAll (v0 := .int .i64 nx) (v1 := .slice ka1 kp.length kc1) (v2 := .slice ma1 mk.length mc1) (v3 := .string at')
        generalize (((w3.setCell ⟨R, 0, none⟩ (.int .i64 nx)).setCell ⟨R, 1, none⟩ (.slice ka1 kp.length kc1)).setCell ⟨R, 2, none⟩ (.slice ma1 mk.length mc1)).setCell ⟨R, 3, none⟩ (.string at') = w7 at *
        refine bodyPost_ret (res_ctt rfl _ _ _ rfl rfl rfl (loadG hR7)) rfl ⟨ka1, kc1, ma1, mc1, rfl, ⟨?_, ?_⟩, ?_⟩
        · exact own_mono (own_fr HG3.out.k hF7 (fun k hk hkw => by have := (HG3.out.k.lt k hk).1; omega)) (by omega)
        · exact own_mono (own_fr HG3.out.m hF7 (fun k hk hkw => by have := (HG3.out.m.lt k hk).1; omega)) (by omega)
        · exact below_fr HA3.out hF7 (by intro k hk; omega) (Nat.le_refl _)
    · have q1 : gg = ⟨nx + 1, kp ++ [⟨nx, now, 0, 0, frm, body⟩], mk ++ [⟨token, nx, now⟩], at'⟩ := by rw [← HGG.out]; unfold sendG; rw [HFN.out]; simp only; rw [if_neg hful]
      have q2 : nx = sn := by rw [← HSN.out]; unfold sendN; rw [HFN.out]; simp only; rw [if_neg hful]
      have q3 : se = 0 := by rw [← HSE.out]; unfold sendE; rw [HFN.out]; simp only; rw [if_neg hful]
      obtain ⟨kq, hkq⟩ : ∃ kq, kp ++ [(⟨nx, now, 0, 0, frm, body⟩ : K)] = kq := ⟨_, rfl⟩
      rw [hkq] at q1
      have hkl : kq.length = kp.length + 1 := by rw [← hkq]; simp
      obtain ⟨mq, hmq⟩ : ∃ mq, mk ++ [(⟨token, nx, now⟩ : M)] = mq := ⟨_, rfl⟩
      rw [hmq] at q1
      have hml : mq.length = mk.length + 1 := by rw [← hmq]; simp
      have hB3w : w0.heap.size ≤ w3.heap.size := by omega
      have HEN := mkH (enter_any w3 w0.heap.size w1.heap.size nx kp ka1 kc1 (.slice ma1 mk.length mc1) (.string at') now frm body HO3.out HG3.out.k hB3w hk ho kq hkq)
      have HMQ := mkH hmq
      have HLK := mkH hkl
      have HLM := mkH hml
      subst q1 q2 q3
      have t1 : ¬ (12 : Int) ≤ (kp.length : Int) := by omega
      have t2 : decide ((12 : Int) ≤ (kp.length : Int)) = false := by simp; omega
      have t3 : ¬ (40 : Int) ≤ (mk.length : Int) := by omega
      have t4 : decide ((40 : Int) ≤ (mk.length : Int)) = false := by simp; omega
      clear HGG HSN HSE hful hkq hmq hkl hml
      go_wp2_with fail
      refine HEN.out.mono ?_
      rintro e w4 ⟨rfl, ka4, kc4, hB4, hO4, hF4⟩
      have hkd := own_kinds HG3.out.k HG3.out.m (by decide)
      have hM4 := own_fr HG3.out.m hF4 (fun k hk hkw => by
        rcases hkw with h | h
        · exact own_ne HG3.out.m HO3.out hk (by decide) h
        · exact hkd k h hk)
      have hKb : ∀ b, b < w0.heap.size → ¬ (b = w1.heap.size ∨ (Value.slice ka1 kp.length kc1).ownBlock = some b) := fun b hb hh => by
        rcases hh with h | h
        · omega
        · have := (HG3.out.k.lt b h).1; omega
      have hR4 := HR3.out.fr hF4 (hKb R (by omega))
      have hT4 := (HC13.out.fr hF4 (hKb C1 (by omega))).cell 0 _ rfl
      have HA4 : Hid (Below w.heap.size w w4) := below_fr HA3.out hF4 (fun k hk => by
        rcases hk with h | h
        · omega
        · have := (HG3.out.k.lt k h).1; omega) (Nat.le_refl _)
      obtain ⟨d0, d1, d2, d3, f0, f1, f2, f3⟩ := hB4.four
      have hal4 : Below w4.heap.size w4 (w4.alloc (.cells #[.string token, .int .i64 nx, .int .i64 now] 198)) := (Below.refl _ w4).alloc (Nat.le_refl _) _
      have HS4 := mkH (newM w4 ⟨token, nx, now⟩ 198)
      simp only [mC] at HS4
      have HO4 := mkH (own_below hO4 hal4)
      have HM4 := mkH (own_below hM4 hal4)
      have HB4 := mkH (hB4.bel hal4)
      have HR4 := mkH (hR4.bel hal4)
      have HA5 : Hid (Below w.heap.size w (w4.alloc (.cells #[.string token, .int .i64 nx, .int .i64 now] 198))) := HA4.out.alloc HA4.out.size _
      have hs4 := hF4.size
      have HS5 : Hid ((w4.alloc (.cells #[.string token, .int .i64 nx, .int .i64 now] 198)).heap.size = w4.heap.size + 1) := by unfold Hid; simp
      have hnew : ¬ w1.heap.size = w4.heap.size := by have := hB4.lt; omega
      clear HEN hB4 hO4 hF4 hM4 hR4 hKb HA3 HO3 HR3 HC13 HC03 HG3 hal4 HA4 hkd hcT l0 l1 l2 l3 e0 e1 e2 e3 g0 g1 g2 g3
      go_wp2_with (at_builtin; refine (wpList_append_own_src _ rfl (.tmp 52) (.tmp 57) 124 124 rfl w0.heap.size 198 _ 3 32 Tryz.underlying124 infoM rfl (by decide) _ mk.length (Fm mk) rfl HM4.out _ 1 (Fm [⟨token, nx, now⟩]) rfl HS4.out ?h63 ?hby ?hbs ?_))
      case h63 => unfold maxLen; omega
      case hby => omega
      case hbs => have := HS5.out; omega
      intro v5 w5 hown hgr
      rw [show Fm mk ++ Fm [⟨token, nx, now⟩] = Fm mq by rw [← HMQ.out]; exact (Fl_append _ _).symm, ← HLM.out] at hown
      obtain ⟨ma5, mc5, rfl⟩ := own_form hown
      have hf := fr_grown hgr
      have hmB := own_ne HM4.out HB4.out (t := 126) (k := w1.heap.size)
      have hB5 := HB4.out.fr hf (fun hk => own_ne HM4.out HB4.out hk (by decide) rfl)
      have hR5 := HR4.out.fr hf (fun hk => own_ne HM4.out HR4.out hk (by decide) rfl)
      have hkd5 := own_kinds HO4.out HM4.out (by decide)
      have hK5 := own_fr HO4.out hf (fun k hk hk2 => hkd5 k hk hk2)
      have HA6 : Hid (Below w.heap.size w w5) := below_fr HA5.out hf (fun k hk => by have := (HM4.out.lt k hk).1; omega) (Nat.le_refl _)
      obtain ⟨d0, d1, d2, d3, f0, f1, f2, f3⟩ := hB5.four
      obtain ⟨e0, e1, e2, e3, g0, g1, g2, g3⟩ := hR5.four
      have HB5 := mkH hB5
      have HR5 := mkH hR5
      have HK5 := mkH hK5
      have HM5 := mkH hown
      clear hmB hB5 hR5 hkd5 hK5 hown hf hgr HB4 HR4 HO4 HM4 HA5 HS4
      go_wp2
      have hB6 := HB5.out.s2 (.slice ma5 mq.length mc5)
      have hF6 := HB5.out.frset 2 (.slice ma5 mq.length mc5)
      have hR6 := HR5.out.fr hF6 (by omega)
      generalize w5.setCell ⟨w1.heap.size, 2, none⟩ (.slice ma5 mq.length mc5) = w6 at *
      obtain ⟨hR7, hF7⟩ := hR6.sAll (v0 := .int .i64 (nx + 1)) (v1 := .slice ka4 kq.length kc4) (v2 := .slice ma5 mq.length mc5) (v3 := .string at')
      generalize (((w6.setCell ⟨R, 0, none⟩ (.int .i64 (nx + 1))).setCell ⟨R, 1, none⟩ (.slice ka4 kq.length kc4)).setCell ⟨R, 2, none⟩ (.slice ma5 mq.length mc5)).setCell ⟨R, 3, none⟩ (.string at') = w7 at *
      refine bodyPost_ret (res_ctt rfl _ _ _ rfl rfl rfl (loadG hR7)) rfl ⟨ka4, kc4, ma5, mc5, rfl, ⟨?_, ?_⟩, ?_⟩
      · have h1 := own_fr HK5.out hF6 (fun k hk hk2 => own_ne HK5.out HB5.out hk (by decide) hk2)
        exact own_mono (own_fr h1 hF7 (fun k hk hk2 => own_ne h1 hR6 hk (by decide) hk2)) (by omega)
      · have h1 := own_fr HM5.out hF6 (fun k hk hk2 => own_ne HM5.out HB5.out hk (by decide) hk2)
        exact own_mono (own_fr h1 hF7 (fun k hk hk2 => own_ne h1 hR6 hk (by decide) hk2)) (by omega)
      · exact below_fr (below_fr HA6.out hF6 (by intro k hk; omega) (Nat.le_refl _)) hF7 (by intro k hk; omega) (Nat.le_refl _)
  · have hie : idxI (fun m : M => decide (m.tok = token)) mk = (i0 : Int) := by unfold idxI; rw [he]
    have HFN := mkH (find_idx _ _ _ _ he hx0)
    have hi0 := lt_of hx0
    obtain ⟨b, off, rfl, z0, z1, z2⟩ := atM HM3.out hx0
    rw [hie]
    have q1 : gg = ⟨nx, kp, mk, at'⟩ := by rw [← HGG.out]; unfold sendG; rw [HFN.out]
    have q2 : sn = x0.seq := by rw [← HSN.out]; unfold sendN; rw [HFN.out]
    have q3 : se = 0 := by rw [← HSE.out]; unfold sendE; rw [HFN.out]
    subst q1 q2 q3
    have hbR : ¬ b = R := by
      intro hb
      have h1 := HL.out.m (show 0 < mk.length by omega)
      obtain ⟨b', off', hbo, hcc⟩ := h1
      simp only [Option.some.injEq, Addr.mk.injEq] at hbo
      obtain ⟨hbo1, -, -⟩ := hbo
      have h2 := World.block_lt_of_cell? w _ (hcc i0 x0 hx0 0 _ rfl)
      simp only at h2
      omega
    obtain ⟨x1, x2, x3⟩ := x0
    clear he hall hie hx0 hp0 HGG HSN HSE
    go_wp2_with fail
    go_region
    all_goals go_wp2
    all_goals
      obtain ⟨hR7, hF7⟩ := HR3.out.sAll (v0 := .int .i64 nx) (v1 := .slice ka1 kp.length kc1) (v2 := .slice ma1 mk.length mc1) (v3 := .string at')
      generalize (((w3.setCell ⟨R, 0, none⟩ (.int .i64 nx)).setCell ⟨R, 1, none⟩ (.slice ka1 kp.length kc1)).setCell ⟨R, 2, none⟩ (.slice ma1 mk.length mc1)).setCell ⟨R, 3, none⟩ (.string at') = w7 at *
      have hD : Fr (fun k => k = R) w3 w7.drew := ⟨hF7.os, hF7.tape, hF7.output, hF7.size, hF7.block⟩
      refine bodyPost_ret (res_ctt rfl _ _ _ rfl rfl rfl (loadG (show Bx w7.drew R _ _ from hR7))) rfl ⟨ka1, kc1, ma1, mc1, rfl, ⟨?_, ?_⟩, ?_⟩
      · exact own_mono (own_fr HG3.out.k hD (fun k hk hkw => by have := (HG3.out.k.lt k hk).1; omega)) (by omega)
      · exact own_mono (own_fr HG3.out.m hD (fun k hk hkw => by have := (HG3.out.m.lt k hk).1; omega)) (by omega)
      · exact below_fr HA3.out hD (by intro k hk; omega) (Nat.le_refl _)

set_option maxHeartbeats 4000000 in
theorem Send_emp (w : World) (g : G) (ka : Option Addr) (kc : Nat) (ma : Option Addr) (mc : Nat) (h : Gl w g ka kc ma mc) (hk : g.kept.length ≤ 1000000000) (hm : g.marks.length ≤ 1000000000) (ho : Sm g.next) (now frm : Int) (body token : ByteArray) (htk : token = ⟨#[]⟩) (hT : Dt.Tb w) (hbody : body.size ≤ 100000) (T : ByteArray) (hTk : tkn token body = T) :
    Calls Tryz.prog 267 #[.agg (gC g ka kc ma mc), .int .i64 now, .int .i64 frm, .string body, .string token] w fun e w' => ∃ ka' kc' ma' mc', e = .returned (.tuple #[.agg (gC (sendG g now frm body T) ka' kc' ma' mc'), .int .i64 (sendN g T), .int .i64 (sendE g T)]) ∧ Go' w.heap.size w' (sendG g now frm body T) ka' kc' ma' mc' ∧ Below w.heap.size w w' := by
  have HL := mkH h
  obtain ⟨nx, kp, mk, at'⟩ := g
  have HGe : Hid (∃ gg, sendG ⟨nx, kp, mk, at'⟩ now frm body T = gg) := ⟨_, rfl⟩
  obtain ⟨gg, hgg⟩ := HGe
  obtain ⟨sn, hsn⟩ : ∃ x, sendN ⟨nx, kp, mk, at'⟩ T = x := ⟨_, rfl⟩
  obtain ⟨se, hse⟩ : ∃ x, sendE ⟨nx, kp, mk, at'⟩ T = x := ⟨_, rfl⟩
  have HGG := mkH hgg
  have HSN := mkH hsn
  have HSE := mkH hse
  rw [hgg, hsn, hse]
  simp only [gC] at hk hm ho ⊢
  have hA := (((Below.refl w.heap.size w).alloc (Nat.le_refl _) (.cells #[Value.int .i64 nx, .slice ka kp.length kc, .slice ma mk.length mc, .string at'] 126)).alloc (by simp) (.cells #[.string token] 9)).alloc (by simp; omega) (.cells #[.int .i64 0, .slice none 0 0, .slice none 0 0, .string ⟨#[]⟩] 126)
  have hc0 := ((Bx.new w #[Value.int .i64 nx, .slice ka kp.length kc, .slice ma mk.length mc, .string at'] 126).alloc (.cells #[.string token] 9)).alloc (.cells #[.int .i64 0, .slice none 0 0, .slice none 0 0, .string ⟨#[]⟩] 126)
  have hc1 := (Bx.new1 w (.cells #[Value.int .i64 nx, .slice ka kp.length kc, .slice ma mk.length mc, .string at'] 126) #[.string token] 9).alloc (.cells #[.int .i64 0, .slice none 0 0, .slice none 0 0, .string ⟨#[]⟩] 126)
  have hc2 := Bx.new2 w (.cells #[Value.int .i64 nx, .slice ka kp.length kc, .slice ma mk.length mc, .string at'] 126) (.cells #[.string token] 9) #[.int .i64 0, .slice none 0 0, .slice none 0 0, .string ⟨#[]⟩] 126
  have hsz : (((w.alloc (.cells #[Value.int .i64 nx, .slice ka kp.length kc, .slice ma mk.length mc, .string at'] 126)).alloc (.cells #[.string token] 9)).alloc (.cells #[.int .i64 0, .slice none 0 0, .slice none 0 0, .string ⟨#[]⟩] 126)).heap.size = w.heap.size + 3 := by simp
  have HA := mkH hA
  have HC0 := mkH hc0
  have HC1 := mkH hc1
  have HC2 := mkH hc2
  have HSZ := mkH hsz
  clear h hA hc0 hc1 hc2 hsz hgg hsn hse
  have hqe : token.toList.isEmpty = true := by rw [htk]; simp
  have HT := mkH hT
  have hTs := hT.size
  obtain ⟨bs, hbs⟩ : ∃ bs, body.data.toList = bs := ⟨_, rfl⟩
  have hbl : bs.length ≤ 100000 := by rw [← hbs]; simpa using hbody
  obtain ⟨W', cc, hcv, hrow, hbW, hltW, hcl, hcu⟩ := conv_any (((w.alloc (.cells #[Value.int .i64 nx, .slice ka kp.length kc, .slice ma mk.length mc, .string at'] 126)).alloc (.cells #[.string token] 9)).alloc (.cells #[.int .i64 0, .slice none 0 0, .slice none 0 0, .string ⟨#[]⟩] 126)) body (by omega)
  rw [hbs] at hcv hrow hcl
  have hsz3 : (((w.alloc (.cells #[Value.int .i64 nx, .slice ka kp.length kc, .slice ma mk.length mc, .string at'] 126)).alloc (.cells #[.string token] 9)).alloc (.cells #[.int .i64 0, .slice none 0 0, .slice none 0 0, .string ⟨#[]⟩] 126)).heap.size = w.heap.size + 1 + 1 + 1 := by simp
  rw [hsz3] at hcv hrow hltW
  have HROW := mkH hrow
  have HBW := mkH hbW
  have HTK : Hid (S (Di.tok bs) = T) := by unfold Hid; rw [← hTk, ← hbs, htk]; rfl
  clear hrow hbW hT hTk htk hsz3
  go_enter Tryz.func267, Tryz.ntmps267
  go_wp2_with fail
  generalize ((w.alloc (.cells #[Value.int .i64 nx, .slice ka kp.length kc, .slice ma mk.length mc, .string at'] 126)).alloc (.cells #[.string token] 9)).alloc (.cells #[.int .i64 0, .slice none 0 0, .slice none 0 0, .string ⟨#[]⟩] 126) = wa at *
  have h3 := HSZ.out
  have hwW := HBW.out.size
  refine (Di.token_any W' _ cc bs (HT.out.below (HA.out.trans (HBW.out.mono (by omega))) hTs) HROW.out (by intro a ha; cases ha; exact hltW) hbl hcl hcu).mono ?_
  rintro e w00 ⟨rfl, hb00⟩
  have hbA : Below wa.heap.size wa w00 := HBW.out.trans (hb00.mono hwW)
  have HA1 := mkH (HA.out.trans (hbA.mono (by omega)))
  have HC01 := mkH (HC0.out.bel hbA)
  have HC11 := mkH (HC1.out.bel hbA)
  have HC21 := mkH (HC2.out.bel hbA)
  have t1 := HC11.out.cell 0 _ rfl
  have t2 := HC11.out.frozen 0
  obtain ⟨m0, m1, m2, m3, -⟩ := HC01.out.four
  have hs00 := hbA.size
  clear HA HC0 HC1 HC2 hb00 hbA HROW HBW hcv
  go_wp2_with fail
  have hF0 := HC11.out.frset 0 (.string (S (Di.tok bs)))
  have hT1 := HC11.out.set 0 (.string (S (Di.tok bs)))
  rw [HTK.out] at hF0 hT1 ⊢
  have hC1 : Bx (w00.setCell ⟨w.heap.size + 1, 0, none⟩ (.string T)) (w.heap.size + 1) #[.string T] 9 := hT1
  have hC0 := HC01.out.fr hF0 (by omega)
  have hC2 := HC21.out.fr hF0 (by omega)
  have HA := mkH (below_fr HA1.out hF0 (fun k hk => by omega) (Nat.le_refl _))
  generalize hw0 : w00.setCell ⟨w.heap.size + 1, 0, none⟩ (.string T) = w0 at *
  have hs0 : wa.heap.size ≤ w0.heap.size := by have := hF0.size; omega
  clear hw0 hF0 hT1 HA1 HC01 HC11 HC21 t1 t2 m0 m1 m2 m3
  have HC0 := mkH hC0
  have HC1 := mkH hC1
  have HC2 := mkH hC2
  clear hC0 hC1 hC2
  obtain ⟨R, hR⟩ : ∃ R, w.heap.size + 1 + 1 = R := ⟨_, rfl⟩
  rw [hR] at HC2 ⊢
  obtain ⟨C1, hC1⟩ : ∃ R, w.heap.size + 1 = R := ⟨_, rfl⟩
  rw [hC1] at HC1 ⊢
  have r1 : w.heap.size < C1 := by omega
  have r2 : C1 < R := by omega
  have r3 : R < w0.heap.size := by omega
  clear hR hC1
  refine (copyOf_any w0 ⟨nx, kp, mk, at'⟩ ka kc ma mc (HL.out.below HA.out) hk hm).mono ?_
  rintro e w1 ⟨ka1, kc1, ma1, mc1, rfl, hg1, hb1⟩
  simp only [gC]
  have hal : Below w1.heap.size w1 (w1.alloc (.cells #[Value.int .i64 nx, .slice ka1 kp.length kc1, .slice ma1 mk.length mc1, .string at'] 126)) := (Below.refl _ w1).alloc (Nat.le_refl _) _
  have hsz1 := hb1.size
  have HB := mkH (Bx.new w1 #[Value.int .i64 nx, .slice ka1 kp.length kc1, .slice ma1 mk.length mc1, .string at'] 126)
  have HG2 := mkH (hg1.below hal)
  have HC0' := mkH ((HC0.out.bel hb1).bel hal)
  have HC1' := mkH ((HC1.out.bel hb1).bel hal)
  have HC2' := mkH ((HC2.out.bel hb1).bel hal)
  have HA1 : Hid (Below w.heap.size w (w1.alloc (.cells #[Value.int .i64 nx, .slice ka1 kp.length kc1, .slice ma1 mk.length mc1, .string at'] 126))) := (HA.out.trans (hb1.mono (by omega))).alloc (by omega) _
  have hsz2 : (w1.alloc (.cells #[Value.int .i64 nx, .slice ka1 kp.length kc1, .slice ma1 mk.length mc1, .string at'] 126)).heap.size = w1.heap.size + 1 := by simp
  obtain ⟨m0, m1, m2, m3, -⟩ := HC0'.out.four
  have hn1 : ¬ w.heap.size = w1.heap.size := by omega
  clear hg1 hb1 hal HC0 HC1 HC2 HA
  go_wp2_with fail
  generalize w1.alloc (.cells #[Value.int .i64 nx, .slice ka1 kp.length kc1, .slice ma1 mk.length mc1, .string at'] 126) = w2 at *
  refine (idxSend w2 ma mc mk (HL.out.m.below HA1.out) hm (fun m => decide (m.tok = T)) C1 (fun W x hb hx => send1_any W x C1 T ((HC1'.out.bel hb).cell 0 _ rfl))).mono ?_
  rintro e w3 ⟨rfl, hb3⟩
  have HO3 := mkH (HB.out.bel hb3)
  have HR3 := mkH (HC2'.out.bel hb3)
  have HC13 := mkH (HC1'.out.bel hb3)
  have HC03 := mkH (HC0'.out.bel hb3)
  have HG3 := mkH (HG2.out.below hb3)
  have HA3 : Hid (Below w.heap.size w w3) := HA1.out.trans (hb3.mono HA1.out.size)
  have HM3 := mkH (HL.out.m.below HA3.out)
  obtain ⟨d0, d1, d2, d3, f0, f1, f2, f3⟩ := HO3.out.four
  obtain ⟨e0, e1, e2, e3, g0, g1, g2, g3⟩ := HR3.out.four
  obtain ⟨l0, l1, l2, l3, -⟩ := HC03.out.four
  have hcT := HC13.out.cell 0 _ rfl
  have hs3 := hb3.size
  have n1 : ¬ w1.heap.size = R := by omega
  have n2 : ¬ R = w1.heap.size := by omega
  have n3 : ¬ w.heap.size = R := by omega
  have n4 : ¬ C1 = R := by omega
  have n5 : ¬ C1 = w1.heap.size := by omega
  clear HB HC0' HC1' HC2' HG2 HA1 hb3 m0 m1 m2 m3
  rcases idx_spec (fun m : M => decide (m.tok = T)) mk with ⟨he, hall⟩ | ⟨i0, x0, he, hx0, hp0, hall⟩
  · have hie : idxI (fun m : M => decide (m.tok = T)) mk = -1 := by unfold idxI; rw [he]
    have HFN := mkH (find_none _ _ he)
    rw [hie]
    clear he hall hie
    by_cases hful : 12 ≤ kp.length ∨ 40 ≤ mk.length
    · have HFU := mkH hful
      have q1 : gg = ⟨nx, kp, mk, at'⟩ := by rw [← HGG.out]; unfold sendG; rw [HFN.out]; simp only; rw [if_pos hful]
      have q2 : sn = 0 := by rw [← HSN.out]; unfold sendN; rw [HFN.out]; simp only; rw [if_pos hful]
      have q3 : se = 7 := by rw [← HSE.out]; unfold sendE; rw [HFN.out]; simp only; rw [if_pos hful]
      subst q1 q2 q3
      clear HGG HSN HSE
      by_cases h12 : 12 ≤ kp.length
      · have t1 : (12 : Int) ≤ (kp.length : Int) := by omega
        have t2 : decide ((12 : Int) ≤ (kp.length : Int)) = true := by simp; omega
        go_wp2
        obtain ⟨hR7, hF7⟩ := HR3.out.sAll (v0 := .int .i64 nx) (v1 := .slice ka1 kp.length kc1) (v2 := .slice ma1 mk.length mc1) (v3 := .string at')
        generalize (((w3.setCell ⟨R, 0, none⟩ (.int .i64 nx)).setCell ⟨R, 1, none⟩ (.slice ka1 kp.length kc1)).setCell ⟨R, 2, none⟩ (.slice ma1 mk.length mc1)).setCell ⟨R, 3, none⟩ (.string at') = w7 at *
        refine bodyPost_ret (res_ctt rfl _ _ _ rfl rfl rfl (loadG hR7)) rfl ⟨ka1, kc1, ma1, mc1, rfl, ⟨?_, ?_⟩, ?_⟩
        · exact own_mono (own_fr HG3.out.k hF7 (fun k hk hkw => by have := (HG3.out.k.lt k hk).1; omega)) (by omega)
        · exact own_mono (own_fr HG3.out.m hF7 (fun k hk hkw => by have := (HG3.out.m.lt k hk).1; omega)) (by omega)
        · exact below_fr HA3.out hF7 (by intro k hk; omega) (Nat.le_refl _)
      · have t1 : ¬ (12 : Int) ≤ (kp.length : Int) := by omega
        have t2 : decide ((12 : Int) ≤ (kp.length : Int)) = false := by simp; omega
        have t3 : (40 : Int) ≤ (mk.length : Int) := by omega
        have t4 : decide ((40 : Int) ≤ (mk.length : Int)) = true := by simp; omega
        go_wp2
        obtain ⟨hR7, hF7⟩ := HR3.out.sAll (v0 := .int .i64 nx) (v1 := .slice ka1 kp.length kc1) (v2 := .slice ma1 mk.length mc1) (v3 := .string at')
        generalize (((w3.setCell ⟨R, 0, none⟩ (.int .i64 nx)).setCell ⟨R, 1, none⟩ (.slice ka1 kp.length kc1)).setCell ⟨R, 2, none⟩ (.slice ma1 mk.length mc1)).setCell ⟨R, 3, none⟩ (.string at') = w7 at *
        refine bodyPost_ret (res_ctt rfl _ _ _ rfl rfl rfl (loadG hR7)) rfl ⟨ka1, kc1, ma1, mc1, rfl, ⟨?_, ?_⟩, ?_⟩
        · exact own_mono (own_fr HG3.out.k hF7 (fun k hk hkw => by have := (HG3.out.k.lt k hk).1; omega)) (by omega)
        · exact own_mono (own_fr HG3.out.m hF7 (fun k hk hkw => by have := (HG3.out.m.lt k hk).1; omega)) (by omega)
        · exact below_fr HA3.out hF7 (by intro k hk; omega) (Nat.le_refl _)
    · have q1 : gg = ⟨nx + 1, kp ++ [⟨nx, now, 0, 0, frm, body⟩], mk ++ [⟨T, nx, now⟩], at'⟩ := by rw [← HGG.out]; unfold sendG; rw [HFN.out]; simp only; rw [if_neg hful]
      have q2 : nx = sn := by rw [← HSN.out]; unfold sendN; rw [HFN.out]; simp only; rw [if_neg hful]
      have q3 : se = 0 := by rw [← HSE.out]; unfold sendE; rw [HFN.out]; simp only; rw [if_neg hful]
      obtain ⟨kq, hkq⟩ : ∃ kq, kp ++ [(⟨nx, now, 0, 0, frm, body⟩ : K)] = kq := ⟨_, rfl⟩
      rw [hkq] at q1
      have hkl : kq.length = kp.length + 1 := by rw [← hkq]; simp
      obtain ⟨mq, hmq⟩ : ∃ mq, mk ++ [(⟨T, nx, now⟩ : M)] = mq := ⟨_, rfl⟩
      rw [hmq] at q1
      have hml : mq.length = mk.length + 1 := by rw [← hmq]; simp
      have hB3w : w0.heap.size ≤ w3.heap.size := by omega
      have HEN := mkH (enter_any w3 w0.heap.size w1.heap.size nx kp ka1 kc1 (.slice ma1 mk.length mc1) (.string at') now frm body HO3.out HG3.out.k hB3w hk ho kq hkq)
      have HMQ := mkH hmq
      have HLK := mkH hkl
      have HLM := mkH hml
      subst q1 q2 q3
      have t1 : ¬ (12 : Int) ≤ (kp.length : Int) := by omega
      have t2 : decide ((12 : Int) ≤ (kp.length : Int)) = false := by simp; omega
      have t3 : ¬ (40 : Int) ≤ (mk.length : Int) := by omega
      have t4 : decide ((40 : Int) ≤ (mk.length : Int)) = false := by simp; omega
      clear HGG HSN HSE hful hkq hmq hkl hml
      go_wp2_with fail
      refine HEN.out.mono ?_
      rintro e w4 ⟨rfl, ka4, kc4, hB4, hO4, hF4⟩
      have hkd := own_kinds HG3.out.k HG3.out.m (by decide)
      have hM4 := own_fr HG3.out.m hF4 (fun k hk hkw => by
        rcases hkw with h | h
        · exact own_ne HG3.out.m HO3.out hk (by decide) h
        · exact hkd k h hk)
      have hKb : ∀ b, b < w0.heap.size → ¬ (b = w1.heap.size ∨ (Value.slice ka1 kp.length kc1).ownBlock = some b) := fun b hb hh => by
        rcases hh with h | h
        · omega
        · have := (HG3.out.k.lt b h).1; omega
      have hR4 := HR3.out.fr hF4 (hKb R (by omega))
      have hT4 := (HC13.out.fr hF4 (hKb C1 (by omega))).cell 0 _ rfl
      have HA4 : Hid (Below w.heap.size w w4) := below_fr HA3.out hF4 (fun k hk => by
        rcases hk with h | h
        · omega
        · have := (HG3.out.k.lt k h).1; omega) (Nat.le_refl _)
      obtain ⟨d0, d1, d2, d3, f0, f1, f2, f3⟩ := hB4.four
      have hal4 : Below w4.heap.size w4 (w4.alloc (.cells #[.string T, .int .i64 nx, .int .i64 now] 198)) := (Below.refl _ w4).alloc (Nat.le_refl _) _
      have HS4 := mkH (newM w4 ⟨T, nx, now⟩ 198)
      simp only [mC] at HS4
      have HO4 := mkH (own_below hO4 hal4)
      have HM4 := mkH (own_below hM4 hal4)
      have HB4 := mkH (hB4.bel hal4)
      have HR4 := mkH (hR4.bel hal4)
      have HA5 : Hid (Below w.heap.size w (w4.alloc (.cells #[.string T, .int .i64 nx, .int .i64 now] 198))) := HA4.out.alloc HA4.out.size _
      have hs4 := hF4.size
      have HS5 : Hid ((w4.alloc (.cells #[.string T, .int .i64 nx, .int .i64 now] 198)).heap.size = w4.heap.size + 1) := by unfold Hid; simp
      have hnew : ¬ w1.heap.size = w4.heap.size := by have := hB4.lt; omega
      clear HEN hB4 hO4 hF4 hM4 hR4 hKb HA3 HO3 HR3 HC13 HC03 HG3 hal4 HA4 hkd hcT l0 l1 l2 l3 e0 e1 e2 e3 g0 g1 g2 g3
      go_wp2_with (at_builtin; refine (wpList_append_own_src _ rfl (.tmp 52) (.tmp 57) 124 124 rfl w0.heap.size 198 _ 3 32 Tryz.underlying124 infoM rfl (by decide) _ mk.length (Fm mk) rfl HM4.out _ 1 (Fm [⟨T, nx, now⟩]) rfl HS4.out ?h63 ?hby ?hbs ?_))
      case h63 => unfold maxLen; omega
      case hby => omega
      case hbs => have := HS5.out; omega
      intro v5 w5 hown hgr
      rw [show Fm mk ++ Fm [⟨T, nx, now⟩] = Fm mq by rw [← HMQ.out]; exact (Fl_append _ _).symm, ← HLM.out] at hown
      obtain ⟨ma5, mc5, rfl⟩ := own_form hown
      have hf := fr_grown hgr
      have hmB := own_ne HM4.out HB4.out (t := 126) (k := w1.heap.size)
      have hB5 := HB4.out.fr hf (fun hk => own_ne HM4.out HB4.out hk (by decide) rfl)
      have hR5 := HR4.out.fr hf (fun hk => own_ne HM4.out HR4.out hk (by decide) rfl)
      have hkd5 := own_kinds HO4.out HM4.out (by decide)
      have hK5 := own_fr HO4.out hf (fun k hk hk2 => hkd5 k hk hk2)
      have HA6 : Hid (Below w.heap.size w w5) := below_fr HA5.out hf (fun k hk => by have := (HM4.out.lt k hk).1; omega) (Nat.le_refl _)
      obtain ⟨d0, d1, d2, d3, f0, f1, f2, f3⟩ := hB5.four
      obtain ⟨e0, e1, e2, e3, g0, g1, g2, g3⟩ := hR5.four
      have HB5 := mkH hB5
      have HR5 := mkH hR5
      have HK5 := mkH hK5
      have HM5 := mkH hown
      clear hmB hB5 hR5 hkd5 hK5 hown hf hgr HB4 HR4 HO4 HM4 HA5 HS4
      go_wp2
      have hB6 := HB5.out.s2 (.slice ma5 mq.length mc5)
      have hF6 := HB5.out.frset 2 (.slice ma5 mq.length mc5)
      have hR6 := HR5.out.fr hF6 (by omega)
      generalize w5.setCell ⟨w1.heap.size, 2, none⟩ (.slice ma5 mq.length mc5) = w6 at *
      obtain ⟨hR7, hF7⟩ := hR6.sAll (v0 := .int .i64 (nx + 1)) (v1 := .slice ka4 kq.length kc4) (v2 := .slice ma5 mq.length mc5) (v3 := .string at')
      generalize (((w6.setCell ⟨R, 0, none⟩ (.int .i64 (nx + 1))).setCell ⟨R, 1, none⟩ (.slice ka4 kq.length kc4)).setCell ⟨R, 2, none⟩ (.slice ma5 mq.length mc5)).setCell ⟨R, 3, none⟩ (.string at') = w7 at *
      refine bodyPost_ret (res_ctt rfl _ _ _ rfl rfl rfl (loadG hR7)) rfl ⟨ka4, kc4, ma5, mc5, rfl, ⟨?_, ?_⟩, ?_⟩
      · have h1 := own_fr HK5.out hF6 (fun k hk hk2 => own_ne HK5.out HB5.out hk (by decide) hk2)
        exact own_mono (own_fr h1 hF7 (fun k hk hk2 => own_ne h1 hR6 hk (by decide) hk2)) (by omega)
      · have h1 := own_fr HM5.out hF6 (fun k hk hk2 => own_ne HM5.out HB5.out hk (by decide) hk2)
        exact own_mono (own_fr h1 hF7 (fun k hk hk2 => own_ne h1 hR6 hk (by decide) hk2)) (by omega)
      · exact below_fr (below_fr HA6.out hF6 (by intro k hk; omega) (Nat.le_refl _)) hF7 (by intro k hk; omega) (Nat.le_refl _)
  · have hie : idxI (fun m : M => decide (m.tok = T)) mk = (i0 : Int) := by unfold idxI; rw [he]
    have HFN := mkH (find_idx _ _ _ _ he hx0)
    have hi0 := lt_of hx0
    obtain ⟨b, off, rfl, z0, z1, z2⟩ := atM HM3.out hx0
    rw [hie]
    have q1 : gg = ⟨nx, kp, mk, at'⟩ := by rw [← HGG.out]; unfold sendG; rw [HFN.out]
    have q2 : sn = x0.seq := by rw [← HSN.out]; unfold sendN; rw [HFN.out]
    have q3 : se = 0 := by rw [← HSE.out]; unfold sendE; rw [HFN.out]
    subst q1 q2 q3
    have hbR : ¬ b = R := by
      intro hb
      have h1 := HL.out.m (show 0 < mk.length by omega)
      obtain ⟨b', off', hbo, hcc⟩ := h1
      simp only [Option.some.injEq, Addr.mk.injEq] at hbo
      obtain ⟨hbo1, -, -⟩ := hbo
      have h2 := World.block_lt_of_cell? w _ (hcc i0 x0 hx0 0 _ rfl)
      simp only at h2
      omega
    obtain ⟨x1, x2, x3⟩ := x0
    clear he hall hie hx0 hp0 HGG HSN HSE
    go_wp2_with fail
    go_region
    all_goals go_wp2
    all_goals
      obtain ⟨hR7, hF7⟩ := HR3.out.sAll (v0 := .int .i64 nx) (v1 := .slice ka1 kp.length kc1) (v2 := .slice ma1 mk.length mc1) (v3 := .string at')
      generalize (((w3.setCell ⟨R, 0, none⟩ (.int .i64 nx)).setCell ⟨R, 1, none⟩ (.slice ka1 kp.length kc1)).setCell ⟨R, 2, none⟩ (.slice ma1 mk.length mc1)).setCell ⟨R, 3, none⟩ (.string at') = w7 at *
      have hD : Fr (fun k => k = R) w3 w7.drew := ⟨hF7.os, hF7.tape, hF7.output, hF7.size, hF7.block⟩
      refine bodyPost_ret (res_ctt rfl _ _ _ rfl rfl rfl (loadG (show Bx w7.drew R _ _ from hR7))) rfl ⟨ka1, kc1, ma1, mc1, rfl, ⟨?_, ?_⟩, ?_⟩
      · exact own_mono (own_fr HG3.out.k hD (fun k hk hkw => by have := (HG3.out.k.lt k hk).1; omega)) (by omega)
      · exact own_mono (own_fr HG3.out.m hD (fun k hk hkw => by have := (HG3.out.m.lt k hk).1; omega)) (by omega)
      · exact below_fr HA3.out hD (by intro k hk; omega) (Nat.le_refl _)
end Go.Proofs.YtgbbajeeelgbhaaGreatDoor.Gd
