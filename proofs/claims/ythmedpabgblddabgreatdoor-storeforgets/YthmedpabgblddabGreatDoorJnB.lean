/-
  recall: what a snapshot says.
  What a store is in memory: its own block and map, its log, its disk; and the contracts of trouble, write, Base, Promised, Down, Sync.
  The contracts of Promise, Accept, Forget, Crash, New.
  The contracts of Accept and New.
  The contract of Restart.
  body: the walk.
  The contracts of Snapshot and Log.
  A store beside memory that stays: the contracts once more, as the laws use them.
-/
import Derived.Test.YthmedpabgblddabGreatDoorJnA
import Derived.Test.YthmedpabgblddabGreatDoorJnE
import Derived.Test.YthmedpabgblddabGreatDoorJnQ
namespace Go.Proofs.YthmedpabgblddabGreatDoor.Tg
open Go.RowKit Kt Dk Dp Da Dc Tp Tm Pl Cs Cf Cn Cv Sc Se Rd Wr Ta Tb0 Tc Td Te Go.Maps
set_option linter.unusedVariables false
set_option maxRecDepth 20000

theorem Sm.set5 {w : World} {S B D Mb per : Nat} {m : M} (h : Sm w S B D Mb per m) {Mb' : Nat} {l : Sl} (hm : Mw w Mb' l) (hne : S ≠ Mb') : Sm (w.setCell ⟨S, 5, none⟩ (.map (some Mb'))) S B D Mb' per { m with sl := l } := by
  have hf := fr_cell h 5 (.map (some Mb'))
  refine ⟨?_, hm.fr hf (fun e => hne e.symm), hne⟩
  rw [setCell_eq_setRow w S 5 _ _ (0, 0) _ h.heap]
  exact setRow_heap _ _ _ _ _ _ h.heap
theorem take_put {l : Sl} (hs : Srt l) {j k : Nat} {v : V} (h : l[j]? = some (k, v)) : put (l.take j) k v = l.take (j + 1) := by
  rw [List.take_add_one, h, Option.toList_some]
  refine put_snoc (fun p hp => ?_)
  obtain ⟨i, hi, hpi⟩ := List.mem_iff_getElem.1 hp
  rw [List.length_take] at hi
  rw [List.getElem_take] at hpi
  have hj := (List.getElem?_eq_some_iff.1 h)
  obtain ⟨hjl, hjk⟩ := hj
  have := List.pairwise_iff_getElem.1 hs i j (by omega) hjl (by omega)
  rw [hpi, hjk] at this
  exact this
theorem eS_drop {l : Sl} {j k : Nat} {v : V} (h : l[j]? = some (k, v)) : eS (l.drop j) = enc k ++ (enc v.bal ++ (enc v.val.length ++ (v.val ++ eS (l.drop (j + 1))))) := by
  obtain ⟨hjl, hjk⟩ := List.getElem?_eq_some_iff.1 h
  rw [List.drop_eq_getElem_cons hjl, hjk, eS]
theorem eS_drop_len (l : Sl) (j : Nat) : (eS (l.drop j)).length ≤ (eS l).length := by
  have : eS l = eS (l.take j) ++ eS (l.drop j) := by rw [← eS_app, List.take_append_drop]
  rw [this, List.length_append]; omega
def sB : Option M → List UInt8
  | none => []
  | some m => Cp.frame (eM m)
theorem frame_len (b : List UInt8) : (Cp.frame b).length = 12 + b.length := Sp.frame_pos b

theorem CrcBodyAt (b : List UInt8) : ((Cp.frame b).drop (0 + 12)).take b.length = b := by
  have e : Cp.frame b = (Cp.put b.length ++ Cp.put (Cp.sum (Cp.put b.length)) ++ Cp.put (Cp.sum b)) ++ b := by simp [Cp.frame]
  have h12 : (Cp.put b.length ++ Cp.put (Cp.sum (Cp.put b.length)) ++ Cp.put (Cp.sum b)).length = 12 := by simp [Cp.put_len]
  rw [e, Nat.zero_add, ← h12, List.drop_left, List.take_length]

/-- The new map, and nothing promised. -/
theorem fresh_sm {w : World} {S B D Mb per : Nat} {m : M} (h : Sm w S B D Mb per m) :
    Sm ((((w.setCell ⟨S, 3, none⟩ (.int .i64 0)).setCell ⟨S, 4, none⟩ (.int .i64 0)).setCell ⟨S, 5, none⟩ (.map (some w.heap.size))).alloc (.map #[] 0)) S B D w.heap.size per m0 ∧
    Fr (fun k => k = S) w ((((w.setCell ⟨S, 3, none⟩ (.int .i64 0)).setCell ⟨S, 4, none⟩ (.int .i64 0)).setCell ⟨S, 5, none⟩ (.map (some w.heap.size))).alloc (.map #[] 0)) := by
  have hne : S ≠ w.heap.size := by have := h.slt; omega
  have h2 := h.set3 0
  have h3 := h2.set4 0
  have f2 := fr_cell h 3 (.int .i64 ((0 : Nat) : Int))
  have f3 := fr_cell h2 4 (.int .i64 ((0 : Nat) : Int))
  have f4 := fr_cell h3 5 (.map (some w.heap.size))
  have hf := (f2.trans f3 (fun i hi => .inl hi)).trans f4 (fun i hi => .inl hi)
  have hh : (((w.setCell ⟨S, 3, none⟩ (.int .i64 ((0 : Nat) : Int))).setCell ⟨S, 4, none⟩ (.int .i64 ((0 : Nat) : Int))).setCell ⟨S, 5, none⟩ (.map (some w.heap.size))).heap[S]? = some (.cells #[.int .i64 (per : Int), .pointer (some ⟨B, 0, none⟩), .pointer (some ⟨D, 0, none⟩), .int .i64 ((0 : Nat) : Int), .int .i64 ((0 : Nat) : Int), .map (some w.heap.size)] 48 (0, 0)) := by
    rw [setCell_eq_setRow _ S 5 _ _ (0, 0) _ h3.heap]
    exact setRow_heap _ _ _ _ _ _ h3.heap
  have hsz : (((w.setCell ⟨S, 3, none⟩ (.int .i64 ((0 : Nat) : Int))).setCell ⟨S, 4, none⟩ (.int .i64 ((0 : Nat) : Int))).setCell ⟨S, 5, none⟩ (.map (some w.heap.size))).heap.size = w.heap.size := by
    rw [setCell_eq_setRow _ S 5 _ _ (0, 0) _ h3.heap, setRow_size, setCell_eq_setRow _ S 4 _ _ (0, 0) _ h2.heap, setRow_size, setCell_eq_setRow _ S 3 _ _ (0, 0) _ h.heap, setRow_size]
  refine ⟨⟨(Below.heap_alloc _ _ _ (block_lt hh)).trans hh, ?_, hne⟩, hf.alloc _⟩
  have := Mw.made (((w.setCell ⟨S, 3, none⟩ (.int .i64 ((0 : Nat) : Int))).setCell ⟨S, 4, none⟩ (.int .i64 ((0 : Nat) : Int))).setCell ⟨S, 5, none⟩ (.map (some w.heap.size)))
  rw [hsz] at this
  exact this

set_option maxHeartbeats 4000000 in
theorem recall_any {w : World} {S B D Mb per : Nat} {m : M} (h : Sm w S B D Mb per m) {F2 : Nat → Prop} (sn : Option M) (hd : Ds w F2 D ⟨sB sn, [], false⟩) (hT : Tb w) (hS0 : S ≠ 0) (hs2 : ¬ F2 S) (ho : OkM (sn.getD m0)) :
    Calls Tryz.prog 31 #[.pointer (some ⟨S, 0, none⟩)] w fun e w' => (∃ v, e = .returned v) ∧ Sm w' S B D w.heap.size per (sn.getD m0) ∧ Fr (fun k => k = S) w w' := by
  have hmm := @run_makeMap Tryz.prog
  obtain ⟨hs0, hf0⟩ := fresh_sm h
  have c2 := h.c2
  have c3 := h.c3
  have c4 := h.c4
  have c5 := h.c5
  have f3 := h.fz 3
  have f4 := h.fz 4
  have f5 := h.fz 5
  have hsl := h.slt
  have hd0 := hd.fr hf0 (fun k hk e => hs2 (by rw [← e]; exact hk))
  have hT0 : Tb _ := Sc.tb_fr hT hf0 (fun e => hS0 e.symm)
  have hg1 := World.new_ne w ⟨S, 3, none⟩ c3
  have hg2 := World.new_ne w ⟨S, 4, none⟩ c4
  have hg3 := World.new_ne w ⟨S, 5, none⟩ c5
  have HS := mkH hs0
  have HF := mkH hf0
  have HD := mkH hd0
  have HT := mkH hT0
  have HO := mkH ho
  have hwlt : Hid (w.heap.size ≤ ((((w.setCell ⟨S, 3, none⟩ (.int .i64 0)).setCell ⟨S, 4, none⟩ (.int .i64 0)).setCell ⟨S, 5, none⟩ (.map (some w.heap.size))).alloc (.map #[] 0)).heap.size) := hf0.size
  clear h hd hT hs0 hf0 hd0 hT0 ho
  go_enter Tryz.func31, Tryz.ntmps31
  go_wp2_with fail
  generalize ((((w.setCell ⟨S, 3, none⟩ (.int .i64 0)).setCell ⟨S, 4, none⟩ (.int .i64 0)).setCell ⟨S, 5, none⟩ (.map (some w.heap.size))).alloc (.map #[] 0)) = W0 at *
  have hrd := read_any HD.out
  have e1 : redE ⟨sB sn, [], false⟩ = 0 := rfl
  have e2 : redB ⟨sB sn, [], false⟩ = sB sn := by simp [redB]
  rw [e1, e2] at hrd
  refine hrd.mono ?_
  rintro e w1 ⟨v, rfl, hnew, hb1⟩
  obtain ⟨ao, cap, rfl, hcl, hcap, hrow, hlo⟩ := hnew
  have hsl1 : (sB sn).length ≤ 30000 := by
    cases sn with
    | none => simp [sB]
    | some ms => have := HO.out.elen; simp only [sB, frame_len]; simp only [Option.getD_some] at this; omega
  have hnx := next_all w1 ao cap 0 (sB sn) (HT.out.below hb1 HT.out.size) hrow (by omega) hcl hcap (Nat.zero_le _)
  rw [List.drop_zero] at hnx
  have HS1 := mkH (HS.out.below hb1)
  have HF1 : Hid (Fr (fun k => k = S) w w1) := HF.out.trans (Fr.ofBelow (F := fun _ => False) hb1) (fun _ x => x.elim)
  clear hrd e1 e2 hrow hlo hb1 hcl hcap HS HD HT c2 c3 c4 c5 f3 f4 f5 hg1 hg2 hg3 hmm hwlt
  obtain ⟨Mn, hMn⟩ : ∃ Mn, w.heap.size = Mn := ⟨_, rfl⟩
  cases sn with
  | none =>
    simp only [sB] at hnx
    rw [Cp.fd_short (by simp)] at hnx
    simp only [sB]
    go_wp2_with fail
    refine hnx.mono ?_
    rintro e w2 ⟨hb2, ⟨-, rfl⟩ | ⟨hx, -⟩⟩
    · have H2 := mkH (HS1.out.below hb2)
      have HF2 : Hid (Fr (fun k => k = S) w w2) := HF1.out.trans (Fr.ofBelow (F := fun _ => False) hb2) (fun _ x => x.elim)
      clear hnx hb2
      go_wp2
      refine bodyPost_ret (results_none rfl _ _ _) rfl ?_
      exact ⟨⟨_, rfl⟩, H2.out, HF2.out⟩
    · cases hx
  | some ms =>
    simp only [Option.getD_some] at HO ⊢
    simp only [sB] at hnx hsl1 ⊢
    obtain ⟨P0, A0, l⟩ := ms
    have hel := HO.out.elen
    have hpr := HO.out.pr
    have hba := HO.out.ba
    have hll := HO.out.len
    simp only at hpr hba hll
    have hfd := Cp.fd_frame (body := eM ⟨P0, A0, l⟩) (by omega) []
    rw [List.append_nil] at hfd
    have hbd : ((Cp.frame (eM ⟨P0, A0, l⟩)).drop (0 + 12)).take (eM ⟨P0, A0, l⟩).length = eM ⟨P0, A0, l⟩ := by
      have := CrcBodyAt (eM ⟨P0, A0, l⟩)
      exact this
    rw [hfd] at hnx
    simp only at hnx
    rw [hbd] at hnx
    generalize (Cp.frame (eM ⟨P0, A0, l⟩)).length = FL at *
    go_wp2_with fail
    refine hnx.mono ?_
    rintro e w2 ⟨hb2, ⟨hx, -⟩ | ⟨-, v2, rfl, ho2⟩⟩
    · exact (hx rfl).elim
    obtain ⟨a2, c2, rfl, -, hc2, hr2⟩ := own_row ho2
    have hcm2 := own_cap ho2
    have H2 := mkH (HS1.out.below hb2)
    have HF2 : Hid (Fr (fun k => k = S) w w2) := HF1.out.trans (Fr.ofBelow (F := fun _ => False) hb2) (fun _ x => x.elim)
    have hrdr := rdr_new (S := S) (Mb := Mn) hr2 hc2 hcm2 (by subst hMn; exact row_ne H2.out hr2)
    have hb3 : Below w2.heap.size w2 (w2.alloc (.cells #[.slice a2 (eM ⟨P0, A0, l⟩).length c2] 83)) := (Below.refl _ w2).alloc (Nat.le_refl _) _
    have H3 := mkH (H2.out.below hb3)
    have HF3 : Hid (Fr (fun k => k = S) w (w2.alloc (.cells #[.slice a2 (eM ⟨P0, A0, l⟩).length c2] 83))) := HF2.out.trans (Fr.ofBelow (F := fun _ => False) hb3) (fun _ x => x.elim)
    have HR3 := mkH hrdr
    have hsz2 : w.heap.size < w2.heap.size := by have := H2.out.mlt; exact this
    clear hnx hb2 ho2 hr2 hc2 hcm2 hrdr hb3 HS1 H2 HF1 HF2 hfd hbd
    obtain ⟨R, hR⟩ : ∃ R, w2.heap.size = R := ⟨_, rfl⟩
    obtain ⟨EL, hEL⟩ : ∃ EL, (eM ⟨P0, A0, l⟩).length = EL := ⟨_, rfl⟩
    rw [hEL] at H3 HF3 HR3 hel ⊢
    rw [hMn] at H3 hsz2 hsl
    rw [hR] at HR3 hsz2
    have hRS : R ≠ S := by omega
    have hRM : R ≠ Mn := by omega
    have hSM : S ≠ Mn := by omega
    simp only [eM] at HR3
    have HEL : Hid ((enc P0 ++ (enc A0 ++ (enc l.length ++ eS l))).length = EL) := hEL
    have hl1 : (enc A0 ++ (enc l.length ++ eS l)).length ≤ 100000 := by have := HEL.out; rw [List.length_append] at this; omega
    have hl2 : (enc l.length ++ eS l).length ≤ 100000 := by rw [List.length_append] at hl1; omega
    have hl3 : (eS l).length ≤ 100000 := by rw [List.length_append] at hl2; omega
    clear hEL
    go_wp2_with fail
    rw [hR] at *
    generalize w2.alloc (.cells #[.slice a2 EL c2] 83) = w3 at *
    refine (num_any w3 R _ P0 _ HR3.out (.inl rfl) (by omega) (by rw [HEL.out]; omega)).mono ?_
    rintro e w4 ⟨rfl, hr4, hf4⟩
    have HR4 := mkH hr4
    have HF4 := mkH hf4
    clear hr4 hf4
    go_wp2_with fail
    refine (num_any w4 R _ A0 _ HR4.out (.inl rfl) (by omega) (by omega)).mono ?_
    rintro e w5 ⟨rfl, hr5, hf5⟩
    have H5 := (H3.out.fr HF4.out (fun e => hRS e.symm) (fun e => hRM e.symm)).fr hf5 (fun e => hRS e.symm) (fun e => hRM e.symm)
    have HF5 : Hid (Fr (fun k => k = S) w w5) := (HF3.out.trans HF4.out (fun i hi => .inr (by omega))).trans hf5 (fun i hi => .inr (by omega))
    have g3 := H5.fz 3
    have g4 := H5.fz 4
    have k3 := H5.c3
    have k4 := H5.c4
    have hs6 := (H5.set3 P0).set4 A0
    have hf6 := fr_cell H5 3 (.int .i64 (P0 : Int))
    have hf7 := fr_cell (H5.set3 P0) 4 (.int .i64 (A0 : Int))
    have hr6 := (hr5.fr hf6 hRS (fun k hk => .inr (.inl hk))).fr hf7 hRS (fun k hk => .inr (.inl hk))
    have HF6 : Hid (Fr (fun k => k = S) w ((w5.setCell ⟨S, 3, none⟩ (.int .i64 (P0 : Int))).setCell ⟨S, 4, none⟩ (.int .i64 (A0 : Int)))) := (HF5.out.trans hf6 (fun i hi => .inl hi)).trans hf7 (fun i hi => .inl hi)
    have H6 := mkH hs6
    have HR6 := mkH hr6
    clear hr5 hf5 H5 hs6 hf6 hf7 hr6 HF5 HR4 HF4 HR3 H3 HF3
    go_wp2_with fail
    clear k3 k4 g3 g4
    generalize (w5.setCell ⟨S, 3, none⟩ (.int .i64 (P0 : Int))).setCell ⟨S, 4, none⟩ (.int .i64 (A0 : Int)) = w6 at *
    refine (num_any w6 R _ l.length _ HR6.out (.inl rfl) (by omega) (by omega)).mono ?_
    rintro e w7 ⟨rfl, hr7, hf7⟩
    have H7 := mkH (H6.out.fr hf7 (fun e => hRS e.symm) (fun e => hRM e.symm))
    have HF7 : Hid (Fr (fun k => k = S) w w7) := HF6.out.trans hf7 (fun i hi => .inr (by omega))
    have HR7 := mkH hr7
    clear hr7 hf7 H6 HR6 HF6
    go_wp2_with fail
    go_loopw [48] (fun i wr => ∃ j : Nat, j ≤ l.length ∧ i = .int .i64 (j : Int) ∧ Hid (Sm wr S B D Mn per ⟨P0, A0, l.take j⟩) ∧ Hid (Rdr wr R (fun k => k = R ∨ k = S ∨ k = Mn) (eS (l.drop j))) ∧ Hid (Fr (fun k => k = S) w wr))
      (fun i _ => l.length - (intOf i).toNat)
    case atStart => exact ⟨0, Nat.zero_le _, rfl, by rw [List.take_zero]; exact H7, by rw [List.drop_zero]; exact HR7, HF7⟩
    case round =>
      clear H7 HR7 HF7
      obtain ⟨j, hj, rfl, HS, HR, HW⟩ := hrel
      have hmx : Tryz.prog.follows .mixedOrders = true := by kernel_rfl
      rcases Nat.lt_or_ge j l.length with hjl | hjl
      · obtain ⟨⟨k, ⟨bl, vl⟩⟩, hku⟩ : ∃ p, l[j]? = some p := ⟨_, List.getElem?_eq_getElem hjl⟩
        have hok := HO.out.at' _ (List.mem_of_getElem? hku)
        simp only at hok
        have hed := eS_drop hku
        simp only at hed
        have hdl := eS_drop_len l j
        rw [hed] at HR hdl
        have hd1 : (enc bl ++ (enc vl.length ++ (vl ++ eS (l.drop (j + 1))))).length ≤ 100000 := by rw [List.length_append] at hdl; omega
        have hd2 : (enc vl.length ++ (vl ++ eS (l.drop (j + 1)))).length ≤ 100000 := by rw [List.length_append] at hd1; omega
        have hd3 : (vl ++ eS (l.drop (j + 1))).length ≤ 100000 := by rw [List.length_append] at hd2; omega
        have hput := take_put HO.out.srt hku
        simp only at hput
        have HP := mkH hput
        clear hed hput hku
        go_wp2_with fail
        refine (num_any wr R _ k _ HR.out (.inl rfl) (by omega) (by omega)).mono ?_
        rintro e x1 ⟨rfl, hr1, hf1⟩
        have HR1 := mkH hr1
        have HF1 := mkH hf1
        clear hr1 hf1
        go_wp2_with fail
        refine (num_any x1 R _ bl _ HR1.out (.inl rfl) (by omega) (by omega)).mono ?_
        rintro e x2 ⟨rfl, hr2, hf2⟩
        have HR2 := mkH hr2
        have HF2 := mkH hf2
        clear hr2 hf2
        go_wp2_with fail
        refine (num_any x2 R _ vl.length _ HR2.out (.inl rfl) (by omega) (by omega)).mono ?_
        rintro e x3 ⟨rfl, hr3, hf3⟩
        have HR3 := mkH hr3
        have H3 := mkH (((HS.out.fr HF1.out (fun e => hRS e.symm) (fun e => hRM e.symm)).fr HF2.out (fun e => hRS e.symm) (fun e => hRM e.symm)).fr hf3 (fun e => hRS e.symm) (fun e => hRM e.symm))
        have HF3 : Hid (Fr (fun k => k = S) w x3) := ((HW.out.trans HF1.out (fun i hi => .inr (by omega))).trans HF2.out (fun i hi => .inr (by omega))).trans hf3 (fun i hi => .inr (by omega))
        have c5x := H3.out.c5
        clear hr3 hf3 HR1 HR2 HF1 HF2 HS HW
        have hkk := hkey (k := k) (by omega)
        have HTX : Hid (∀ q, Calls Tryz.prog 56 #[.pointer (some ⟨R, 0, none⟩), .int .i64 (vl.length : Int)] (x3.drewN q) fun e w' => e = .returned (.string (Kt.S vl)) ∧ ∃ x5, Fr (fun k => k = S) w x5 ∧ w'.cell? ⟨S, 5, none⟩ = some (.map (some Mn)) ∧ (Instr.mapUpdate 46 (.map (some Mn)) (.int .i64 (k : Int)) (.agg #[.int .i64 (bl : Int), .string (Kt.S vl)])).run Tryz.prog w' = .ok () x5 ∧ Sm x5 S B D Mn per ⟨P0, A0, l.take (j + 1)⟩ ∧ Rdr x5 R (fun k => k = R ∨ k = S ∨ k = Mn) (eS (l.drop (j + 1)))) := fun q => by
          have hd : Below x3.heap.size x3 (x3.drewN q) := below_drewN (Below.refl _ _) q
          refine (text_any (x3.drewN q) R (fun k => k = R ∨ k = S ∨ k = Mn) vl _ (HR3.out.fr (Fr.ofBelow (F := fun _ => False) hd) (fun x => x) (fun _ x => x.elim)) (.inl rfl) (by omega)).mono ?_
          rintro e w' ⟨rfl, hrt, hft⟩
          have hs' := (H3.out.below hd).fr hft (fun e => hRS e.symm) (fun e => hRM e.symm)
          obtain ⟨x5, hrun, hown5, hturn⟩ := hs'.mp.store law Tryz.underlying46 (by simp only [List.length_take]; unfold maxLen; omega) hkk (vE_mk ⟨bl, vl⟩)
          have hf5 := fr_turned hturn
          refine ⟨rfl, x5, ((HF3.out.trans (Fr.ofBelow (F := fun _ => False) hd) (fun _ x => x.elim)).trans hft (fun i hi => .inr (by omega))).trans hf5 (fun i hi => .inr (by omega)), hs'.c5, hrun, ⟨(hf5.heap hs'.slt hSM).trans hs'.heap, ?_, hSM⟩, hrt.fr hf5 hRM (fun k hk => .inr (.inr hk))⟩
          have hsrt : Srt (l.take j) := HO.out.srt.sublist (List.take_sublist _ _)
          rw [Dm_put hsrt, HP.out] at hown5
          exact Tm.tight hown5
        go_wp2_with fail
        go_region_with (first
          | (go_at_call 56; refine (HTX.out 1).mono ?_; rintro e w' ⟨rfl, x5, hF5, c6, hupd, hS5, hR5⟩))
        all_goals go_wp2
        all_goals go_roundw
        all_goals first
          | exact ⟨j + 1, by omega, by go_num, hS5, hR5, hF5⟩
          | (simp [intOf]; omega)
      · have hjn : j = l.length := by omega
        subst hjn
        rw [List.take_length] at HS
        have hd : decide ((l.length : Int) < (l.length : Int)) = false := by simp
        go_wp2
        refine bodyPost_end (results_none rfl _ _ _) rfl ?_
        exact ⟨⟨_, rfl⟩, by rw [hMn]; exact HS.out, HW.out⟩
end Go.Proofs.YthmedpabgblddabGreatDoor.Tg

namespace Go.Proofs.YthmedpabgblddabGreatDoor.Th
open Go.RowKit Kt Dk Dp Da Dc De Tp Tm Pl Cs Cf Cn Cv Sq Sr Sa Sb Sc Se St Sv Rd Wr Ta Tb0 Tc Td Te Tg Tt Go.Maps
set_option linter.unusedVariables false
set_option maxRecDepth 20000

/-- Block S is a store: its pieces. -/
structure Pc (w : World) (F : Nat → Prop) (S B D Mb : Nat) (F1 F2 : Nat → Prop) (h : H) (s : St) (m : M) : Prop where
  sm : Sm w S B D Mb h.per m
  lg : Lg w F1 B h
  ds : Ds w F2 D s
  lt : ∀ k, F k → k < w.heap.size
  sF : F S
  mF : F Mb
  f1 : ∀ k, F1 k → F k
  f2 : ∀ k, F2 k → F k
  s1 : ¬ F1 S
  s2 : ¬ F2 S
  m1 : ¬ F1 Mb
  m2 : ¬ F2 Mb
  d12 : ∀ k, F1 k → ¬ F2 k
section
variable {w w' : World} {F : Nat → Prop} {S B D Mb : Nat} {F1 F2 : Nat → Prop} {h : H} {s : St} {m : M}
theorem Pc.below (p : Pc w F S B D Mb F1 F2 h s m) (hb : Below w.heap.size w w') : Pc w' F S B D Mb F1 F2 h s m :=
  ⟨p.sm.below hb, p.lg.below hb, p.ds.below hb, fun k hk => Nat.lt_of_lt_of_le (p.lt k hk) hb.size, p.sF, p.mF, p.f1, p.f2, p.s1, p.s2, p.m1, p.m2, p.d12⟩
theorem Pc.fr {Q : Nat → Prop} (p : Pc w F S B D Mb F1 F2 h s m) (hf : Fr Q w w') (hq : ∀ k, Q k → ¬ F k) : Pc w' F S B D Mb F1 F2 h s m :=
  ⟨p.sm.fr hf (fun x => hq _ x p.sF) (fun x => hq _ x p.mF), p.lg.fr hf (fun k hk hx => hq k hk (p.f1 k hx)), p.ds.fr hf (fun k hk hx => hq k hx (p.f2 k hk)), fun k hk => Nat.lt_of_lt_of_le (p.lt k hk) hf.size, p.sF, p.mF, p.f1, p.f2, p.s1, p.s2, p.m1, p.m2, p.d12⟩
/-- The log has turned. -/
theorem Pc.log {F1' : Nat → Prop} {h' : H} (p : Pc w F S B D Mb F1 F2 h s m) (hl : Lg w' F1' B h') (hn : Nx F1 w w' F1') (hp : h'.per = h.per) : Pc w' (Nw F w w') S B D Mb F1' F2 h' s m := by
  have hlt1 := p.lg.lt
  have hlt2 := p.ds.lt
  refine ⟨?_, hl, p.ds.fr hn.1 (fun k hk hx => p.d12 k hx hk), Nw.lt p.lt hn.size, .inl p.sF, .inl p.mF, fun k hk => ?_, fun k hk => .inl (p.f2 k hk), fun x => ?_, p.s2, fun x => ?_, p.m2, fun k hk hx => ?_⟩
  · rw [hp]; exact p.sm.fr hn.1 p.s1 p.m1
  · rcases hn.2 k hk with x | x
    · exact .inl (p.f1 k x)
    · exact .inr ⟨x, hl.lt k hk⟩
  · rcases hn.2 _ x with y | y
    · exact p.s1 y
    · have := p.sm.slt; omega
  · rcases hn.2 _ x with y | y
    · exact p.m1 y
    · have := p.sm.mlt; omega
  · rcases hn.2 k hk with y | y
    · exact p.d12 k y hx
    · have := hlt2 k hx; omega
/-- The disk has turned. -/
theorem Pc.disk {F2' : Nat → Prop} {s' : St} (p : Pc w F S B D Mb F1 F2 h s m) (hd : Ds w' F2' D s') (hn : Nx F2 w w' F2') : Pc w' (Nw F w w') S B D Mb F1 F2' h s' m := by
  have hlt1 := p.lg.lt
  refine ⟨p.sm.fr hn.1 p.s2 p.m2, p.lg.fr hn.1 (fun k hk hx => p.d12 k hx hk), hd, Nw.lt p.lt hn.size, .inl p.sF, .inl p.mF, fun k hk => .inl (p.f1 k hk), fun k hk => ?_, p.s1, fun x => ?_, p.m1, fun x => ?_, fun k hk hx => ?_⟩
  · rcases hn.2 k hk with x | x
    · exact .inl (p.f2 k x)
    · exact .inr ⟨x, hd.lt k hk⟩
  · rcases hn.2 _ x with y | y
    · exact p.s2 y
    · have := p.sm.slt; omega
  · rcases hn.2 _ x with y | y
    · exact p.m2 y
    · have := p.sm.mlt; omega
  · rcases hn.2 k hx with y | y
    · exact p.d12 k hk y
    · have := hlt1 k hk; omega
/-- The store's own block and map have turned; the map may be a new one. -/
theorem Pc.own {Mb' : Nat} {m' : M} (p : Pc w F S B D Mb F1 F2 h s m) (hs : Sm w' S B D Mb' h.per m') (hf : Fr (fun k => k = S ∨ k = Mb) w w') (hm : Mb' = Mb ∨ w.heap.size ≤ Mb') : Pc w' (Nw F w w') S B D Mb' F1 F2 h s m' := by
  have hlt1 := p.lg.lt
  have hlt2 := p.ds.lt
  refine ⟨hs, p.lg.fr hf (fun k hk hx => ?_), p.ds.fr hf (fun k hk hx => ?_), Nw.lt p.lt hf.size, .inl p.sF, ?_, fun k hk => .inl (p.f1 k hk), fun k hk => .inl (p.f2 k hk), p.s1, p.s2, ?_, ?_, p.d12⟩
  · rcases hk with rfl | rfl
    · exact p.s1 hx
    · exact p.m1 hx
  · rcases hx with rfl | rfl
    · exact p.s2 hk
    · exact p.m2 hk
  · rcases hm with rfl | e
    · exact .inl p.mF
    · exact .inr ⟨e, hs.mlt⟩
  · rcases hm with rfl | e
    · exact p.m1
    · intro x; have := hlt1 _ x; omega
  · rcases hm with rfl | e
    · exact p.m2
    · intro x; have := hlt2 _ x; omega
theorem Pc.nx1 {F1' : Nat → Prop} (p : Pc w F S B D Mb F1 F2 h s m) (hn : Nx F1 w w' F1') : Nx F w w' (Nw F w w') := Nw.nx (hn.1.mono p.f1)
theorem Pc.nx2 {F2' : Nat → Prop} (p : Pc w F S B D Mb F1 F2 h s m) (hn : Nx F2 w w' F2') : Nx F w w' (Nw F w w') := Nw.nx (hn.1.mono p.f2)
theorem Pc.nxo (p : Pc w F S B D Mb F1 F2 h s m) (hf : Fr (fun k => k = S ∨ k = Mb) w w') : Nx F w w' (Nw F w w') := Nw.nx (hf.mono (fun k hk => by rcases hk with rfl | rfl; exact p.sF; exact p.mF))
end
def sd (t : T) : St := ⟨sB t.sn, [], dn t⟩
/-- Block S is a store that has this. -/
def Sr (w : World) (F : Nat → Prop) (S : Nat) (t : T) : Prop := ∃ B D Mb F1 F2, Pc w F S B D Mb F1 F2 t.h (sd t) (mm t)
theorem Sr.below {w w' : World} {F : Nat → Prop} {S : Nat} {t : T} (h : Sr w F S t) (hb : Below w.heap.size w w') : Sr w' F S t := by
  obtain ⟨B, D, Mb, F1, F2, p⟩ := h; exact ⟨B, D, Mb, F1, F2, p.below hb⟩
theorem Sr.lt {w : World} {F : Nat → Prop} {S : Nat} {t : T} (h : Sr w F S t) : ∀ k, F k → k < w.heap.size := by obtain ⟨B, D, Mb, F1, F2, p⟩ := h; exact p.lt
theorem Sr.own {w : World} {F : Nat → Prop} {S : Nat} {t : T} (h : Sr w F S t) : F S := by obtain ⟨B, D, Mb, F1, F2, p⟩ := h; exact p.sF

section
variable {w : World} {F : Nat → Prop} {S : Nat} {t : T} {N : Nat}
theorem trouble_any (h : Sr w F S t) (hi : TI N t) : Calls Tryz.prog 21 #[.pointer (some ⟨S, 0, none⟩)] w fun e w' => e = .returned (.int .i64 (if dn t then 10 else 0)) ∧ w' = w := by
  obtain ⟨B, D, Mb, F1, F2, p⟩ := h
  have c1 := p.sm.c1
  have hm := isMade_any w S B c1
  have hd := Sa.down_any p.lg hi.inv.p1
  have e : t.h.dn.isSome = dn t := rfl
  rw [e] at hd
  clear p e
  generalize dn t = d at *
  go_enter Tryz.func21, Tryz.ntmps21
  go_wp2_with fail
  refine hm.mono ?_
  rintro e w1 ⟨rfl, hw⟩
  have hw2 := hw.symm
  subst hw2
  clear hw hm
  go_wp2_with fail
  refine hd.mono ?_
  rintro e w1 ⟨rfl, hw⟩
  have hw2 := hw.symm
  subst hw2
  clear hw hd
  cases d
  · go_wp2
    go_ret
    exact ⟨rfl, rfl⟩
  · go_wp2
    go_ret
    exact ⟨rfl, rfl⟩

theorem promised_any (h : Sr w F S t) : Calls Tryz.prog 7 #[.pointer (some ⟨S, 0, none⟩)] w fun e w' => e = .returned (.int .i64 ((mm t).pr : Int)) ∧ w' = w := by
  obtain ⟨B, D, Mb, F1, F2, p⟩ := h
  have c3 := p.sm.c3
  have hm := isMade_any w S B p.sm.c1
  clear p
  go_enter Tryz.func7, Tryz.ntmps7
  go_wp2_with fail
  refine hm.mono ?_
  rintro e w1 ⟨rfl, hw⟩
  have hw2 := hw.symm
  subst hw2
  clear hw hm
  go_wp2
  go_ret
  exact ⟨rfl, rfl⟩

theorem base_any (h : Sr w F S t) : Calls Tryz.prog 6 #[.pointer (some ⟨S, 0, none⟩)] w fun e w' => e = .returned (.int .i64 ((mm t).ba : Int)) ∧ w' = w := by
  obtain ⟨B, D, Mb, F1, F2, p⟩ := h
  have c4 := p.sm.c4
  have hm := isMade_any w S B p.sm.c1
  clear p
  go_enter Tryz.func6, Tryz.ntmps6
  go_wp2_with fail
  refine hm.mono ?_
  rintro e w1 ⟨rfl, hw⟩
  have hw2 := hw.symm
  subst hw2
  clear hw hm
  go_wp2
  go_ret
  exact ⟨rfl, rfl⟩

theorem down_any (h : Sr w F S t) (hi : TI N t) : Calls Tryz.prog 17 #[.pointer (some ⟨S, 0, none⟩)] w fun e w' => e = .returned (.bool (dn t)) ∧ w' = w := by
  obtain ⟨B, D, Mb, F1, F2, p⟩ := h
  have c1 := p.sm.c1
  have hm := isMade_any w S B c1
  have hd := Sa.down_any p.lg hi.inv.p1
  have e : t.h.dn.isSome = dn t := rfl
  rw [e] at hd
  clear p e
  go_enter Tryz.func17, Tryz.ntmps17
  go_wp2_with fail
  refine hm.mono ?_
  rintro e w1 ⟨rfl, hw⟩
  have hw2 := hw.symm
  subst hw2
  clear hw hm
  go_wp2_with fail
  refine hd.mono ?_
  rintro e w1 ⟨rfl, hw⟩
  have hw2 := hw.symm
  subst hw2
  clear hw hd
  go_wp2
  go_ret
  exact ⟨rfl, rfl⟩

theorem sync_any (h : Sr w F S t) (hi : TI N t) : Calls Tryz.prog 10 #[.pointer (some ⟨S, 0, none⟩)] w fun e w' => e = .returned (.int .i64 (yE t)) ∧ ∃ F', Sr w' F' S (sy t) ∧ Nx F w w' F' := by
  obtain ⟨B, D, Mb, F1, F2, p⟩ := h
  have c1 := p.sm.c1
  have hm := isMade_any w S B c1
  have P := mkH p
  have HS : Hid (Calls Tryz.prog 26 #[.pointer (some ⟨B, 0, none⟩)] w fun e w' => e = .returned (.int .i64 (yE t)) ∧ ∃ F', Sr w' F' S (sy t) ∧ Nx F w w' F') := by
    cases hd : t.h.dn with
    | none =>
      refine (sync_up p.lg hi.inv.p1 hi.inv.n hd).mono ?_
      rintro e w' ⟨rfl, F', hl, hn⟩
      have e1 : yE t = 0 := by simp [yE, dn, hd]
      have e2 : syH t.h = syn t.h := by simp [syH, hd]
      refine ⟨by rw [e1], Nw F w w', ⟨B, D, Mb, F', F2, ?_⟩, p.nx1 hn⟩
      have := p.log hl hn rfl
      have e3 : sd (sy t) = sd t := by simp only [sd, dn_sy]; rfl
      rw [e3]
      simp only [sy, e2]
      exact this
    | some q =>
      refine (sync_down p.lg hi.inv.p1 hd).mono ?_
      rintro e w' ⟨rfl, rfl⟩
      have e1 : yE t = 10 := by simp [yE, dn, hd]
      have e2 : sy t = t := by simp [sy, syH, hd]
      rw [e2]
      exact ⟨by rw [e1], F, ⟨B, D, Mb, F1, F2, p⟩, Nx.refl _ _⟩
  clear p
  go_enter Tryz.func10, Tryz.ntmps10
  go_wp2_with fail
  refine hm.mono ?_
  rintro e w1 ⟨rfl, hw⟩
  have hw2 := hw.symm
  subst hw2
  clear hw hm
  go_wp2_with fail
  refine HS.out.mono ?_
  rintro e w' ⟨rfl, h1⟩
  have H1 := mkH h1
  clear h1
  go_wp2
  go_ret
  exact ⟨rfl, H1.out⟩

set_option maxHeartbeats 1000000 in
theorem write_any (h : Sr w F S t) (hi : TI N t) (hN : N ≤ 200) (hT : Tb w) (hd : t.h.dn = none) (r : Rc) (hr0 : okR (mm t) r) (ao : Option Addr) (cap : Nat) (hr : Row w ao (eR r)) (hc : (eR r).length ≤ cap) (hcap : cap ≤ 9223372036854775807) (hnF : ∀ b off, ao = some ⟨b, off, none⟩ → 0 < (eR r).length → ¬ F b) :
    Calls Tryz.prog 23 #[.pointer (some ⟨S, 0, none⟩), .slice ao (eR r).length cap] w fun e w' => e = .returned (.int .i64 0) ∧ ∃ F', Sr w' F' S (wr t r) ∧ Nx F w w' F' := by
  obtain ⟨B, D, Mb, F1, F2, p⟩ := h
  have c1 := p.sm.c1
  have P := mkH p
  have HI := mkH hi
  have ha := append_up p.lg hi.inv (by omega) hT hd ao cap (eR r) hr (eR_len hr0)
  rw [appErr0 hi.inv hN] at ha
  have HR := mkH hr
  have HNF := mkH hnF
  have HR0 := mkH hr0
  clear p hi hr hnF hr0
  obtain ⟨L, hL⟩ : ∃ L, (eR r).length = L := ⟨_, rfl⟩
  rw [hL] at ha ⊢
  have HL := mkH hL
  clear hL
  go_enter Tryz.func23, Tryz.ntmps23
  go_wp2_with fail
  refine ha.mono ?_
  rintro e w1 ⟨rfl, F1', hl, hn⟩
  have hr1 : Row w1 ao (eR r) := Sk.row_fr HR.out hn.1 (fun h0 b off e x => HNF.out b off e h0 (P.out.f1 b x))
  have p1 := P.out.log hl hn (app_per _ _)
  have hap := apply_any p1.sm HI.out.ok r HR0.out ao cap hr1 hc hcap
  rw [HL.out] at hap
  have P1 := mkH p1
  have HN1 := mkH (P.out.nx1 hn)
  clear hl hn hr1 p1 ha
  go_wp2_with fail
  refine hap.mono ?_
  rintro e w2 ⟨⟨v, rfl⟩, hs2, hf2⟩
  have H2 := mkH (P1.out.own hs2 hf2 (.inl rfl))
  have HN2 := mkH (P1.out.nxo hf2)
  clear hs2 hf2 hap
  go_wp2
  go_ret
  refine ⟨rfl, _, ⟨B, D, Mb, F1', F2, ?_⟩, HN1.out.trans HN2.out⟩
  have e1 : sd (wr t r) = sd t := by simp only [sd, dn_wr]; rfl
  rw [e1, mm_wr]
  exact H2.out
end
end Go.Proofs.YthmedpabgblddabGreatDoor.Th

namespace Go.Proofs.YthmedpabgblddabGreatDoor.Ti
open Go.RowKit Kt Dk Dp Da Dc De Tp Tm Pl Cs Cf Cn Cv Sq Sr Sa Sb Sc Se St Sv Rd Wr Ta Tb0 Tc Td Te Tg Tt Th Go.Maps
set_option linter.unusedVariables false
set_option maxRecDepth 20000

theorem flat2 (a b : Nat) : flat [a, b] = enc a ++ enc b := by simp [flat]
theorem flat3 (a b c : Nat) : flat [a, b, c] = enc a ++ (enc b ++ enc c) := by simp [flat]
theorem isN_nat {b : Int} (h : isN b = true) : ∃ n : Nat, b = (n : Int) ∧ n ≤ 1099511627776 := by
  simp only [isN, decide_eq_true_eq] at h
  exact ⟨b.toNat, by omega, by omega⟩
theorem not_F {w : World} {F : Nat → Prop} {base e n : Nat} {ao : Option Addr} {k cap : Nat} {xs : List Value} {w1 : World} (hlt : ∀ q, F q → q < w.heap.size) (ho : w1.ownsRow base e 1 (.slice ao k cap) n xs) (hb : w.heap.size ≤ base) : ∀ b off, ao = some ⟨b, off, none⟩ → 0 < n → ¬ F b := fun b off e h0 hF => by
  rcases ho.2 with ⟨e1, e2⟩ | ⟨g, c, cur, e1, e2, -⟩
  · omega
  · simp only [Value.slice.injEq] at e1
    rw [e1.1] at e
    simp only [Option.some.injEq, Addr.mk.injEq, and_true] at e
    have := hlt b hF
    omega

section
variable {w : World} {F : Nat → Prop} {S : Nat} {t : Tt.T} {N : Nat}
set_option maxHeartbeats 1000000 in
theorem promise_any (h : Sr w F S t) (hi : TI N t) (hN : N ≤ 200) (hT : Tb w) (b : Int) :
    Calls Tryz.prog 15 #[.pointer (some ⟨S, 0, none⟩), .int .i64 b] w fun e w' => e = .returned (.int .i64 (pE t b)) ∧ ∃ F', Sr w' F' S (pT t b) ∧ Nx F w w' F' := by
  have htr := trouble_any h hi
  have hnm := isNumber_any w b
  have HH := mkH h
  have c3 : w.cell? ⟨S, 3, none⟩ = some (.int .i64 ((mm t).pr : Int)) := by obtain ⟨B, D, Mb, F1, F2, p⟩ := h; exact p.sm.c3
  have HI := mkH hi
  have HT := mkH hT
  clear h hi hT
  cases hd : dn t with
  | true =>
    have e1 : pE t b = 10 := by simp [pE, hd]
    have e2 : pT t b = t := by simp [pT, e1]
    rw [e1, e2]
    rw [hd] at htr
    clear e1 e2 hd
    go_enter Tryz.func15, Tryz.ntmps15
    go_wp2_with fail
    refine htr.mono ?_
    rintro e w1 ⟨rfl, hw⟩
    have hw2 := hw.symm
    subst hw2
    clear hw htr
    go_wp2
    go_ret
    exact ⟨rfl, F, HH.out, Nx.refl _ _⟩
  | false =>
    rw [hd] at htr
    have hdd : t.h.dn = none := by simpa [dn] using hd
    have HD := mkH hdd
    cases hb : isN b with
    | false =>
      have e1 : pE t b = 2 := by simp only [pE, hd, show isNm b = isN b from rfl, hb]; rfl
      have e2 : pT t b = t := by simp [pT, e1]
      rw [e1, e2]
      rw [hb] at hnm
      clear e1 e2 hd hb hdd
      go_enter Tryz.func15, Tryz.ntmps15
      go_wp2_with fail
      refine htr.mono ?_
      rintro e w1 ⟨rfl, hw⟩
      have hw2 := hw.symm
      subst hw2
      clear hw htr
      go_wp2_with fail
      refine hnm.mono ?_
      rintro e w1 ⟨rfl, hw⟩
      have hw2 := hw.symm
      subst hw2
      clear hw hnm
      go_wp2
      go_ret
      exact ⟨rfl, F, HH.out, Nx.refl _ _⟩
    | true =>
      obtain ⟨n, rfl, hn⟩ := isN_nat hb
      rw [hb] at hnm
      by_cases hlt : n < (mm t).pr
      · have e1 : pE t (n : Int) = 16 := by simp only [pE, hd, show isNm (n : Int) = isN n from rfl, hb]; simp; omega
        have e2 : pT t (n : Int) = t := by simp [pT, e1]
        rw [e1, e2]
        have t1 : decide ((n : Int) < ((mm t).pr : Int)) = true := by simp; omega
        clear e1 e2 hd hb hdd
        generalize (mm t).pr = P at *
        go_enter Tryz.func15, Tryz.ntmps15
        go_wp2_with fail
        refine htr.mono ?_
        rintro e w1 ⟨rfl, hw⟩
        have hw2 := hw.symm
        subst hw2
        clear hw htr
        go_wp2_with fail
        refine hnm.mono ?_
        rintro e w1 ⟨rfl, hw⟩
        have hw2 := hw.symm
        subst hw2
        clear hw hnm
        go_wp2
        go_ret
        exact ⟨rfl, F, HH.out, Nx.refl _ _⟩
      · have e1 : pE t (n : Int) = 0 := by simp only [pE, hd, show isNm (n : Int) = isN n from rfl, hb]; simp; omega
        have t1 : decide ((n : Int) < ((mm t).pr : Int)) = false := by simp; omega
        by_cases heq : n = (mm t).pr
        · have e2 : pT t (n : Int) = t := by unfold pT; rw [if_neg (by intro x; exact x.2 (by rw [heq]))]
          rw [e1, e2]
          have t2 : ((n : Int) == ((mm t).pr : Int)) = true := by simp [heq]
          clear e1 e2 hd hb hdd
          generalize (mm t).pr = P at *
          subst heq
          go_enter Tryz.func15, Tryz.ntmps15
          go_wp2_with fail
          refine htr.mono ?_
          rintro e w1 ⟨rfl, hw⟩
          have hw2 := hw.symm
          subst hw2
          clear hw htr
          go_wp2_with fail
          refine hnm.mono ?_
          rintro e w1 ⟨rfl, hw⟩
          have hw2 := hw.symm
          subst hw2
          clear hw hnm
          go_wp2
          go_ret
          exact ⟨rfl, F, HH.out, Nx.refl _ _⟩
        · have e2 : pT t (n : Int) = wr t (.pm n) := by unfold pT; rw [if_pos ⟨e1, by omega⟩]; simp
          rw [e1, e2]
          have t2 : ((n : Int) == ((mm t).pr : Int)) = false := by simp; omega
          have hadd := addNums2 w 1 n (by omega) (by omega)
          rw [flat2] at hadd
          obtain ⟨L, hL⟩ : ∃ L, (enc 1 ++ enc n).length = L := ⟨_, rfl⟩
          rw [hL] at hadd
          have HL := mkH hL
          have HADD := mkH hadd
          clear hL
          clear e1 e2 hd hb hdd hadd
          generalize (mm t).pr = P at *
          go_enter Tryz.func15, Tryz.ntmps15
          go_wp2_with fail
          refine htr.mono ?_
          rintro e w1 ⟨rfl, hw⟩
          have hw2 := hw.symm
          subst hw2
          clear hw htr
          go_wp2_with fail
          refine hnm.mono ?_
          rintro e w1 ⟨rfl, hw⟩
          have hw2 := hw.symm
          subst hw2
          clear hw hnm
          go_wp2_with fail
          refine HADD.out.mono ?_
          rintro e w1 ⟨ao, cap, rfl, ho, hbw⟩
          have hcm := own_cap ho
          have hnf := not_F HH.out.lt ho (Nat.le_refl _)
          obtain ⟨hLx, hcl, hrow⟩ := Row.own ho
          have hwr := write_any (HH.out.below hbw) HI.out hN (HT.out.below hbw HT.out.size) HD.out (.pm n) hn ao cap hrow (by simp only [eR]; rw [HL.out]; exact hcl) hcm (by simp only [eR]; rw [HL.out]; exact hnf)
          have hee : (eR (.pm n)).length = L := HL.out
          rw [hee] at hwr
          clear hLx hee
          clear ho hcl hrow hnf
          go_wp2_with fail
          refine hwr.mono ?_
          rintro e w2 ⟨rfl, F', h2, hn2⟩
          have H2 := mkH h2
          have HN2 := mkH hn2
          clear h2 hn2 hwr
          go_wp2
          go_ret
          exact ⟨rfl, F', H2.out, (Nx.ofBelow hbw).trans HN2.out⟩

set_option maxHeartbeats 1000000 in
theorem forget_any (h : Sr w F S t) (hi : TI N t) (hN : N ≤ 200) (hT : Tb w) (n : Nat) (hn : n ≤ 1099511627776) :
    Calls Tryz.prog 8 #[.pointer (some ⟨S, 0, none⟩), .int .i64 (n : Int)] w fun e w' => e = .returned (.int .i64 (fE t)) ∧ ∃ F', Sr w' F' S (fT t n) ∧ Nx F w w' F' := by
  have htr := trouble_any h hi
  have hnm := isNumber_any w n
  have hb : isN (n : Int) = true := by simp [isN]; omega
  rw [hb] at hnm
  have HH := mkH h
  have c4 : w.cell? ⟨S, 4, none⟩ = some (.int .i64 ((mm t).ba : Int)) := by obtain ⟨B, D, Mb, F1, F2, p⟩ := h; exact p.sm.c4
  have HI := mkH hi
  have HT := mkH hT
  clear h hi hT hb
  cases hd : dn t with
  | true =>
    have e1 : fE t = 10 := by simp [fE, hd]
    have e2 : fT t n = t := by simp [fT, e1]
    rw [e1, e2]
    rw [hd] at htr
    clear e1 e2 hd
    go_enter Tryz.func8, Tryz.ntmps8
    go_wp2_with fail
    refine htr.mono ?_
    rintro e w1 ⟨rfl, hw⟩
    have hw2 := hw.symm
    subst hw2
    clear hw htr
    go_wp2
    go_ret
    exact ⟨rfl, F, HH.out, Nx.refl _ _⟩
  | false =>
    rw [hd] at htr
    have hdd : t.h.dn = none := by simpa [dn] using hd
    have HD := mkH hdd
    have e1 : fE t = 0 := by simp [fE, hd]
    by_cases hlt : n ≤ (mm t).ba
    · have e2 : fT t n = t := by unfold fT; rw [if_neg (by omega)]
      rw [e1, e2]
      have t1 : decide ((n : Int) ≤ ((mm t).ba : Int)) = true := by simp; omega
      clear e1 e2 hd hdd
      generalize (mm t).ba = P at *
      go_enter Tryz.func8, Tryz.ntmps8
      go_wp2_with fail
      refine htr.mono ?_
      rintro e w1 ⟨rfl, hw⟩
      have hw2 := hw.symm
      subst hw2
      clear hw htr
      go_wp2_with fail
      refine hnm.mono ?_
      rintro e w1 ⟨rfl, hw⟩
      have hw2 := hw.symm
      subst hw2
      clear hw hnm
      go_wp2
      go_ret
      exact ⟨rfl, F, HH.out, Nx.refl _ _⟩
    · have t1 : decide ((n : Int) ≤ ((mm t).ba : Int)) = false := by simp; omega
      have e2 : fT t n = wr t (.bs n) := by unfold fT; rw [if_pos ⟨e1, by omega⟩]
      rw [e1, e2]
      have hadd := addNums2 w 3 n (by omega) (by omega)
      rw [flat2] at hadd
      obtain ⟨L, hL⟩ : ∃ L, (enc 3 ++ enc n).length = L := ⟨_, rfl⟩
      rw [hL] at hadd
      have HL := mkH hL
      have HADD := mkH hadd
      clear hL
      clear e1 e2 hd hdd hadd
      generalize (mm t).ba = P at *
      go_enter Tryz.func8, Tryz.ntmps8
      go_wp2_with fail
      refine htr.mono ?_
      rintro e w1 ⟨rfl, hw⟩
      have hw2 := hw.symm
      subst hw2
      clear hw htr
      go_wp2_with fail
      refine hnm.mono ?_
      rintro e w1 ⟨rfl, hw⟩
      have hw2 := hw.symm
      subst hw2
      clear hw hnm
      go_wp2_with fail
      refine HADD.out.mono ?_
      rintro e w1 ⟨ao, cap, rfl, ho, hbw⟩
      have hcm := own_cap ho
      have hnf := not_F HH.out.lt ho (Nat.le_refl _)
      obtain ⟨hLx, hcl, hrow⟩ := Row.own ho
      have hwr := write_any (HH.out.below hbw) HI.out hN (HT.out.below hbw HT.out.size) HD.out (.bs n) hn ao cap hrow (by simp only [eR]; rw [HL.out]; exact hcl) hcm (by simp only [eR]; rw [HL.out]; exact hnf)
      have hee : (eR (.bs n)).length = L := HL.out
      rw [hee] at hwr
      clear hLx hee
      clear ho hcl hrow hnf
      go_wp2_with fail
      refine hwr.mono ?_
      rintro e w2 ⟨rfl, F', h2, hn2⟩
      have H2 := mkH h2
      have HN2 := mkH hn2
      clear h2 hn2 hwr
      go_wp2
      go_ret
      exact ⟨rfl, F', H2.out, (Nx.ofBelow hbw).trans HN2.out⟩

theorem crash_any (h : Sr w F S t) (hi : TI N t) (k f : Int) (hf : f ≤ 9223372036854775807) :
    Calls Tryz.prog 11 #[.pointer (some ⟨S, 0, none⟩), .int .i64 k, .int .i64 f] w fun e w' => e = .returned (.int .i64 (cE t k)) ∧ ∃ F', Sr w' F' S (cr t k f) ∧ Nx F w w' F' := by
  obtain ⟨B, D, Mb, F1, F2, p⟩ := h
  have c1 := p.sm.c1
  have hm := isMade_any w S B c1
  have P := mkH p
  by_cases hu : t.h.dn = none ∧ 0 ≤ k
  · obtain ⟨hd, hk⟩ := hu
    have hc := crash_up p.lg hi.inv.p1 hd hi.inv.n k f hk hf
    have e1 : cE t k = 0 := by unfold cE dn; rw [hd]; simp; omega
    rw [e1]
    clear p
    go_enter Tryz.func11, Tryz.ntmps11
    go_wp2_with fail
    refine hm.mono ?_
    rintro e w1 ⟨rfl, hw⟩
    have hw2 := hw.symm
    subst hw2
    clear hw hm
    go_wp2_with fail
    refine hc.mono ?_
    rintro e w1 ⟨rfl, F1', hl, hn⟩
    have p1 := P.out.log hl hn rfl
    have c2 := p1.sm.c2
    have P1 := mkH p1
    have HN1 := mkH (P.out.nx1 hn)
    have hdc := De.crash_any p1.ds k f hf
    have e2 : crsE (sd t) k = 0 := by simp only [crsE, sd, dn, hd]; simp; omega
    have e3 : crsS (sd t) k f = sd (cr t k f) := by
      have x1 : crH t.h k f = { t.h with dn := some (k, f) } := by simp [crH, hd, crs]; omega
      have x2 : dn (cr t k f) = true := by simp only [dn, cr, x1]; rfl
      have x3 : dn t = false := by simp [dn, hd]
      simp only [crsS, sd, x2, x3]
      rw [if_neg (by simp), if_neg (by omega)]
      simp [turn, cr]
    rw [e2, e3] at hdc
    clear hl hn p1 hc e1 e2 e3
    go_wp2_with fail
    refine hdc.mono ?_
    rintro e w2 ⟨rfl, hd2, hn2⟩
    have P2 := mkH (P1.out.disk hd2 hn2)
    have HN2 := mkH (P1.out.nx2 hn2)
    clear hd2 hn2 hdc
    go_wp2
    go_ret
    refine ⟨rfl, _, ⟨B, D, Mb, F1', F2, ?_⟩, HN1.out.trans HN2.out⟩
    have x1 : (cr t k f).h = { t.h with dn := some (k, f) } := by simp [cr, crH, hd, crs]; omega
    rw [x1, mm_cr]
    exact P2.out
  · have hc : Hid (Calls Tryz.prog 27 #[.pointer (some ⟨B, 0, none⟩), .int .i64 k, .int .i64 f] w fun e w' => e = .returned (.int .i64 (cE t k)) ∧ w' = w) := by
      cases hd : t.h.dn with
      | none =>
        have hk : k < 0 := by rw [hd] at hu; simp at hu; omega
        have e1 : cE t k = 2 := by unfold cE dn; rw [hd]; simp; omega
        rw [e1]
        exact crash_bad p.lg hi.inv.p1 hd k f hk
      | some q =>
        have e1 : cE t k = 10 := by unfold cE dn; rw [hd]; simp
        rw [e1]
        exact crash_down p.lg hi.inv.p1 hd k f
    have e2 : cr t k f = t := by
      cases hd : t.h.dn with
      | none => rw [hd] at hu; simp at hu; simp only [cr, crH, hd, crs]; simp [hu]
      | some q => simp [cr, crH, hd]
    have e3 : (cE t k != 0) = true := by
      unfold cE dn
      cases hd : t.h.dn with
      | none => rw [hd] at hu; simp at hu; simp [hu]
      | some q => simp
    rw [e2]
    clear p hu e2
    generalize cE t k = E at *
    go_enter Tryz.func11, Tryz.ntmps11
    go_wp2_with fail
    refine hm.mono ?_
    rintro e w1 ⟨rfl, hw⟩
    have hw2 := hw.symm
    subst hw2
    clear hw hm
    go_wp2_with fail
    refine hc.out.mono ?_
    rintro e w1 ⟨rfl, hw⟩
    have hw2 := hw.symm
    subst hw2
    clear hw hc
    go_wp2
    go_ret
    exact ⟨rfl, F, ⟨B, D, Mb, F1, F2, P.out⟩, Nx.refl _ _⟩
end
end Go.Proofs.YthmedpabgblddabGreatDoor.Ti

namespace Go.Proofs.YthmedpabgblddabGreatDoor.Tj
open Go.RowKit Kt Dk Dp Da Dc De Tp Tm Pl Cs Cf Cn Cv Sq Sr Sa Sb Sc Se St Sv Rd Wr Ta Tb0 Tc Td Te Tg Tt Th Ti Go.Maps
set_option linter.unusedVariables false
set_option maxRecDepth 20000

section
variable {w : World} {F : Nat → Prop} {S : Nat} {t : Tt.T} {N : Nat}
set_option maxHeartbeats 2000000 in
theorem accept_any (h : Sr w F S t) (hi : TI N t) (hN : N ≤ 200) (hT : Tb w) (s : Nat) (hs : s ≤ 60) (b : Int) (va : Option Addr) (vc : Nat) (v : List UInt8) (hv : Row w va v) (hvl : v.length ≤ 300) :
    Calls Tryz.prog 9 #[.pointer (some ⟨S, 0, none⟩), .int .i64 (s : Int), .int .i64 b, .slice va v.length vc] w fun e w' => e = .returned (.int .i64 (aE t s b)) ∧ ∃ F', Sr w' F' S (aT t s b v) ∧ Nx F w w' F' := by
  have htr := trouble_any h hi
  have hns := isNumber_any w s
  have hsb : isN (s : Int) = true := by simp [isN]; omega
  rw [hsb] at hns
  have hnm := isNumber_any w b
  have HH := mkH h
  have c3 : w.cell? ⟨S, 3, none⟩ = some (.int .i64 ((mm t).pr : Int)) := by obtain ⟨B, D, Mb, F1, F2, p⟩ := h; exact p.sm.c3
  have c4 : w.cell? ⟨S, 4, none⟩ = some (.int .i64 ((mm t).ba : Int)) := by obtain ⟨B, D, Mb, F1, F2, p⟩ := h; exact p.sm.c4
  have hroom : Calls Tryz.prog 25 #[.pointer (some ⟨S, 0, none⟩), .int .i64 (s : Int)] w fun e w' => e = .returned (.bool true) ∧ Below w.heap.size w w' := by
    obtain ⟨B, D, Mb, F1, F2, p⟩ := h
    exact hasRoom_any p.sm s (by omega) (by have := hi.ok.len; omega)
  have HI := mkH hi
  have HT := mkH hT
  have HV := mkH hv
  clear h hi hT hsb hv
  cases hd : dn t with
  | true =>
    have e1 : aE t s b = 10 := by simp [aE, hd]
    have e2 : aT t s b v = t := by simp [aT, e1]
    rw [e1, e2]
    rw [hd] at htr
    clear e1 e2 hd
    generalize v.length = VL at *
    go_enter Tryz.func9, Tryz.ntmps9
    go_wp2_with fail
    refine htr.mono ?_
    rintro e w1 ⟨rfl, hw⟩
    have hw2 := hw.symm
    subst hw2
    clear hw htr
    go_wp2
    go_ret
    exact ⟨rfl, F, HH.out, Nx.refl _ _⟩
  | false =>
    rw [hd] at htr
    have hdd : t.h.dn = none := by simpa [dn] using hd
    have HD := mkH hdd
    cases hb : isN b with
    | false =>
      have e1 : aE t s b = 2 := by simp only [aE, hd, show isNm b = isN b from rfl, hb]; rfl
      have e2 : aT t s b v = t := by simp [aT, e1]
      rw [e1, e2]
      rw [hb] at hnm
      clear e1 e2 hd hb hdd
      generalize v.length = VL at *
      go_enter Tryz.func9, Tryz.ntmps9
      go_wp2_with fail
      refine htr.mono ?_
      rintro e w1 ⟨rfl, hw⟩
      have hw2 := hw.symm
      subst hw2
      clear hw htr
      go_wp2_with fail
      refine hns.mono ?_
      rintro e w1 ⟨rfl, hw⟩
      have hw2 := hw.symm
      subst hw2
      clear hw hns
      go_wp2_with fail
      refine hnm.mono ?_
      rintro e w1 ⟨rfl, hw⟩
      have hw2 := hw.symm
      subst hw2
      clear hw hnm
      go_wp2
      go_ret
      exact ⟨rfl, F, HH.out, Nx.refl _ _⟩
    | true =>
      obtain ⟨n, rfl, hn⟩ := isN_nat hb
      rw [hb] at hnm
      by_cases hlt : n < (mm t).pr ∨ s < (mm t).ba
      · have e1 : aE t s (n : Int) = 16 := by simp only [aE, hd, show isNm (n : Int) = isN n from rfl, hb]; rw [if_neg (by simp), if_neg (by simp), if_pos (by omega)]
        have e2 : aT t s (n : Int) v = t := by simp [aT, e1]
        rw [e1, e2]
        clear e1 e2 hd hb hdd
        generalize (mm t).pr = P at *
        generalize (mm t).ba = BA at *
        generalize v.length = VL at *
        by_cases hl1 : n < P
        · clear hlt
          go_enter Tryz.func9, Tryz.ntmps9
          go_wp2_with fail
          refine htr.mono ?_
          rintro e w1 ⟨rfl, hw⟩
          have hw2 := hw.symm
          subst hw2
          clear hw htr
          go_wp2_with fail
          refine hns.mono ?_
          rintro e w1 ⟨rfl, hw⟩
          have hw2 := hw.symm
          subst hw2
          clear hw hns
          go_wp2_with fail
          refine hnm.mono ?_
          rintro e w1 ⟨rfl, hw⟩
          have hw2 := hw.symm
          subst hw2
          clear hw hnm
          go_wp2
          go_ret
          exact ⟨rfl, F, HH.out, Nx.refl _ _⟩
        · have hl2 : s < BA := by omega
          clear hlt
          go_enter Tryz.func9, Tryz.ntmps9
          go_wp2_with fail
          refine htr.mono ?_
          rintro e w1 ⟨rfl, hw⟩
          have hw2 := hw.symm
          subst hw2
          clear hw htr
          go_wp2_with fail
          refine hns.mono ?_
          rintro e w1 ⟨rfl, hw⟩
          have hw2 := hw.symm
          subst hw2
          clear hw hns
          go_wp2_with fail
          refine hnm.mono ?_
          rintro e w1 ⟨rfl, hw⟩
          have hw2 := hw.symm
          subst hw2
          clear hw hnm
          go_wp2
          go_ret
          exact ⟨rfl, F, HH.out, Nx.refl _ _⟩
      · have e1 : aE t s (n : Int) = 0 := by simp only [aE, hd, show isNm (n : Int) = isN n from rfl, hb]; rw [if_neg (by simp), if_neg (by simp), if_neg (by omega)]
        have e2 : aT t s (n : Int) v = wr t (.ac s n v) := by unfold aT; rw [if_pos e1]; simp
        have HOK : Hid (okR (mm t) (.ac s n v)) := by simp only [Hid, okR]; omega
        rw [e1, e2]
        have hl1 : ¬ n < (mm t).pr := by omega
        have hl2 : ¬ s < (mm t).ba := by omega
        clear e1 e2 hd hb hdd hlt
        have HA3 : Hid (∀ W, Calls Tryz.prog 24 #[.slice none 0 0, .slice (some ⟨W.heap.size, 0, none⟩) 3 3] (W.alloc (.cells #[.int .i64 2, .int .i64 (s : Int), .int .i64 (n : Int)] 3)) fun e w' => ∃ ao cap L, L ≤ 27 ∧ L = (enc 2 ++ (enc s ++ enc n)).length ∧ e = .returned (.slice ao L cap) ∧ w'.ownsRow W.heap.size 5 1 (.slice ao L cap) L (U (enc 2 ++ (enc s ++ enc n))) ∧ Below W.heap.size W w') := fun W => by
          have := addNums3 W 2 s n (by omega) (by omega) (by omega)
          rw [flat3] at this
          refine this.mono ?_
          rintro e w' ⟨ao, cap, rfl, h1, h2⟩
          refine ⟨ao, cap, _, ?_, rfl, rfl, h1, h2⟩
          have := enc_len9 (n := 2) (by omega)
          have := enc_len9 (n := s) (by omega)
          have := enc_len9 (n := n) (by omega)
          simp only [List.length_append]; omega
        generalize (mm t).pr = P at c3 hl1
        generalize (mm t).ba = BA at c4 hl2
        obtain ⟨VL, hVL⟩ : ∃ VL, v.length = VL := ⟨_, rfl⟩
        have HVL := mkH hVL
        rw [hVL] at hvl ⊢
        clear hVL
        have hgt : ¬ (32768 < VL) := by omega
        go_enter Tryz.func9, Tryz.ntmps9
        go_wp2_with fail
        refine htr.mono ?_
        rintro e w1 ⟨rfl, hw⟩
        have hw2 := hw.symm
        subst hw2
        clear hw htr
        go_wp2_with fail
        refine hns.mono ?_
        rintro e w1 ⟨rfl, hw⟩
        have hw2 := hw.symm
        subst hw2
        clear hw hns
        go_wp2_with fail
        refine hnm.mono ?_
        rintro e w1 ⟨rfl, hw⟩
        have hw2 := hw.symm
        subst hw2
        clear hw hnm
        go_wp2_with fail
        refine hroom.mono ?_
        rintro e w1 ⟨rfl, hb1⟩
        clear hroom c3 c4 hl1 hl2
        go_wp2_with fail
        refine (HA3.out w1).mono ?_
        rintro e w2 ⟨ao, cap, L, hL27, hLe, rfl, ho, hb2⟩
        have hb02 : Below w.heap.size w w2 := hb1.trans (hb2.mono hb1.size)
        have hv2 := HV.out.below hb02
        have hsrc := hv2.src (P := Tryz.prog) Tryz.underlying30 vc
        rw [HVL.out] at hsrc
        have HS := mkH hsrc
        have HO2 := mkH ho
        have HLE := mkH hLe
        have hs12 := hb2.size
        have hs01 := hb1.size
        clear hsrc ho hv2 hLe hb2
        go_wp2_with (at_builtin; refine (wpList_append_own_src_at _ rfl (.tmp 52) (.tmp 53) 30 30 rfl w1.heap.size 5 (.int .u8 0) 1 1 Tryz.underlying30 Da.info5 rfl (by decide) _ _ _ rfl HO2.out _ VL (U v) rfl HS.out ?h63 ?hby ?hbs ?_))
        case h63 => unfold maxLen; omega
        case hby => omega
        case hbs => omega
        intro v3 w3 ho3 hg3 hx3
        obtain ⟨a3, c3', rfl⟩ := own_form ho3
        have hb03 : Below w.heap.size w w3 := hb02.trans ((fr_by hg3).below (fun k hk => by have := (HO2.out.lt k hk).1; omega) (by omega))
        clear hx3
        rw [← U_append] at ho3
        have hcm := own_cap ho3
        have hnf := not_F HH.out.lt ho3 (by omega)
        obtain ⟨hLx, hcl, hrow⟩ := Row.own ho3
        have hee : enc 2 ++ (enc s ++ enc n) ++ v = eR (.ac s n v) := by simp [eR]
        rw [hee] at hrow hLx
        have hwr := write_any (HH.out.below hb03) HI.out hN (HT.out.below hb03 HT.out.size) HD.out (.ac s n v) HOK.out a3 c3' hrow (by rw [← hLx]; exact hcl) hcm (by rw [← hLx]; exact hnf)
        rw [← hLx] at hwr
        clear ho3 hg3 hcl hrow hnf hee hLx
        go_wp2_with fail
        refine hwr.mono ?_
        rintro e w4 ⟨rfl, F', h2, hn2⟩
        have H2 := mkH h2
        have HN2 := mkH hn2
        clear h2 hn2 hwr
        go_wp2
        go_ret
        exact ⟨rfl, F', H2.out, (Nx.ofBelow hb03).trans HN2.out⟩
end
set_option maxHeartbeats 1000000 in
theorem new_any (w : World) (per : Nat) (h1 : 1 ≤ per) (h2 : per ≤ 1024) :
    Calls Tryz.prog 14 #[.int .i64 (per : Int)] w fun e w' => ∃ S, e = .returned (.tuple #[.pointer (some ⟨S, 0, none⟩), .int .i64 0]) ∧ ∃ F, Sr w' F S (tn per) ∧ (∀ k, F k → w.heap.size ≤ k) ∧ Below w.heap.size w w' := by
  have hmm := @run_makeMap Tryz.prog
  go_enter Tryz.func14, Tryz.ntmps14
  go_wp2_with fail
  refine (Sa.new_any w per h1 h2).mono ?_
  rintro e w1 ⟨rfl, hl1, hb1⟩
  have HL1 := mkH hl1
  have hs1 : w.heap.size < w1.heap.size := hl1.lt _ rfl
  clear hl1
  go_wp2_with fail
  refine (Da.new_any w1).mono ?_
  rintro e w2 ⟨rfl, hd2, hb2⟩
  have HD2 := mkH hd2
  have hs2 : w1.heap.size < w2.heap.size := hd2.lt _ rfl
  clear hd2
  go_wp2
  go_ret2
  have hm3 := Mw.made w2
  have hb3 : Below w2.heap.size w2 (w2.alloc (.map #[] 0)) := (Below.refl _ _).alloc (Nat.le_refl _) _
  obtain ⟨w3, hw3⟩ : ∃ w3, w2.alloc (.map #[] 0) = w3 := ⟨_, rfl⟩
  have hs3 : w3.heap.size = w2.heap.size + 1 := by rw [← hw3]; simp
  rw [hw3] at hm3 hb3
  obtain ⟨o, ho⟩ : ∃ o : Obj, o = .cells #[.int .i64 (per : Int), .pointer (some ⟨w.heap.size, 0, none⟩), .pointer (some ⟨w1.heap.size, 0, none⟩), .int .i64 0, .int .i64 0, .map (some w2.heap.size)] 48 := ⟨_, rfl⟩
  have hb4 : Below w3.heap.size w3 (w3.alloc o) := (Below.refl _ _).alloc (Nat.le_refl _) _
  have hh : (w3.alloc o).heap[w3.heap.size]? = some o := heap_alloc_new _ _
  have hb24 : Below w2.heap.size w2 (w3.alloc o) := hb3.trans (hb4.mono hb3.size)
  have hb14 : Below w1.heap.size w1 (w3.alloc o) := hb2.trans (hb24.mono hb2.size)
  have hb04 : Below w.heap.size w (w3.alloc o) := hb1.trans (hb14.mono hb1.size)
  have key : Sr (w3.alloc o) (fun k => w.heap.size ≤ k ∧ k < (w3.alloc o).heap.size) w3.heap.size (tn per) := by
    have hsz : (w3.alloc o).heap.size = w3.heap.size + 1 := by simp
    refine ⟨w.heap.size, w1.heap.size, w2.heap.size, _, _, ⟨⟨by rw [hh, ho]; rfl, hm3.below hb4, by omega⟩, HL1.out.below hb14, (HD2.out.below hb24 : Ds _ _ _ (sd (tn per))), fun k hk => hk.2, by omega, by omega, fun k hk => by omega, fun k hk => by omega, by omega, by omega, by omega, by omega, fun k hk => by omega⟩⟩
  rw [hs3] at key
  subst ho
  subst hw3
  exact ⟨w2.heap.size + 1, rfl, _, key, fun k hk => hk.1, hb04⟩
end Go.Proofs.YthmedpabgblddabGreatDoor.Tj

namespace Go.Proofs.YthmedpabgblddabGreatDoor.Tk
open Go.RowKit Go.Shelf Kt Dk Dp Da Dc De Tp Tm Pl Cs Cf Cg Cn Cv Ca Sq Sr Sa Sb Sc Se Sf Sh Sk Sl Sm St Sv Rd Wr Ta Tb0 Tc Td Te Tg Tt Th Ti Tj Tr Go.Maps
set_option linter.unusedVariables false
set_option maxRecDepth 20000
attribute [local go_sem] Oper.semAt_some

theorem rs_sd {t : Tt.T} (hd : dn t = true) : rstE (sd t) = 0 ∧ rstS (sd t) = ⟨sB t.sn, [], false⟩ := by
  refine ⟨by simp [rstE, sd, hd], ?_⟩
  simp [rstS, sd, hd]
theorem sd_rs (t : Tt.T) : sd (Tt.rs t) = ⟨sB t.sn, [], false⟩ := by simp only [sd, dn_rs]; rfl

section
variable {w : World} {F : Nat → Prop} {S : Nat} {t : Tt.T} {N : Nat}
theorem restart_upS (h : Sr w F S t) (hi : TI N t) (hd : t.h.dn = none) :
    Calls Tryz.prog 12 #[.pointer (some ⟨S, 0, none⟩)] w fun e w' => e = .returned (.int .i64 9) ∧ Below w.heap.size w w' := by
  obtain ⟨B, D, Mb, F1, F2, p⟩ := h
  have hb : Below w.heap.size w (w.alloc (.cells #[.pointer (some ⟨S, 0, none⟩)] 23)) := (Below.refl _ w).alloc (Nat.le_refl _) _
  have p1 := p.below hb
  have c1 := p1.sm.c1
  have hm := isMade_any _ S B c1
  have hr := restart_up p1.lg hi.inv.p1 hd
  have cx := Cw.cell_new_at w #[.pointer (some ⟨S, 0, none⟩)] 23 0 _ rfl
  clear p p1
  generalize hW : w.alloc (.cells #[.pointer (some ⟨S, 0, none⟩)] 23) = W at *
  refine (callsIn_wide (n := 12)).1 ?_
  refine callsIn_of_wp_marks Tryz.func12 rfl trivial ?_ rfl
  simp only [Tryz.ntmps12, List.size_toArray, List.length_cons, List.length_nil, Nat.reduceAdd, Nat.reduceSub, Array.replicate_succ, Array.replicate_zero, List.push_toArray, List.append_toArray, List.nil_append, List.cons_append]
  gi_wp2_with fail
  refine ⟨trivial, (callsIn_wide.2 hm).mono ?_⟩
  rintro e w1 ⟨rfl, hw⟩
  have hw2 := hw.symm
  subst hw2
  clear hw hm
  gi_wp2_with fail
  refine ⟨trivial, (callsIn_wide.2 hr).mono ?_⟩
  rintro e w1 ⟨rfl, hw⟩
  have hw2 := hw.symm
  subst hw2
  clear hw hr
  gi_wp2
  refine ⟨_, results_tmp rfl _ _ _, rfl, hb⟩

set_option maxHeartbeats 4000000 in
theorem restart_dnS (h : Sr w F S t) (hi : TI N t) (hN : N ≤ 1000000) (hT : Tb w) (h0 : ¬ F 0) {q : Int × Int} (hd : t.h.dn = some q) :
    Calls Tryz.prog 12 #[.pointer (some ⟨S, 0, none⟩)] w fun e w' => e = .returned (.int .i64 0) ∧ ∃ F', Sr w' F' S (Tt.rs t) ∧ Nx F w w' F' := by
  have hS0 : S ≠ 0 := fun e => h0 (by rw [← e]; exact h.own)
  have hFl := h.lt
  obtain ⟨B, D, Mb, F1, F2, p⟩ := h
  have hb : Below w.heap.size w (w.alloc (.cells #[.pointer (some ⟨S, 0, none⟩)] 23)) := (Below.refl _ w).alloc (Nat.le_refl _) _
  have p1 := p.below hb
  have c1 := p1.sm.c1
  have hm := isMade_any _ S B c1
  have hr := restart_down p1.lg hi.inv hN (hT.below hb hT.size) (fun x => h0 (p.f1 0 x)) hd
  have cx := Cw.cell_new_at w #[.pointer (some ⟨S, 0, none⟩)] 23 0 _ rfl
  have HBX : Hid ((w.alloc (.cells #[.pointer (some ⟨S, 0, none⟩)] 23)).heap[w.heap.size]? = some (.cells #[.pointer (some ⟨S, 0, none⟩)] 23 (0, 0))) := heap_alloc_new _ _
  have P1 := mkH p1
  have HI := mkH hi
  have HT1 := mkH (hT.below hb hT.size)
  have hdn : dn t = true := by simp [dn, hd]
  have hsw : (w.alloc (.cells #[.pointer (some ⟨S, 0, none⟩)] 23)).heap.size = w.heap.size + 1 := by simp
  have HB := mkH hb
  clear p p1 hT hi hb
  generalize hW : w.alloc (.cells #[.pointer (some ⟨S, 0, none⟩)] 23) = W at *
  refine (callsIn_wide (n := 12)).1 ?_
  refine callsIn_of_wp_marks Tryz.func12 rfl trivial ?_ rfl
  simp only [Tryz.ntmps12, List.size_toArray, List.length_cons, List.length_nil, Nat.reduceAdd, Nat.reduceSub, Array.replicate_succ, Array.replicate_zero, List.push_toArray, List.append_toArray, List.nil_append, List.cons_append]
  gi_wp2_with fail
  refine ⟨trivial, (callsIn_wide.2 hm).mono ?_⟩
  rintro e w1 ⟨rfl, hw⟩
  have hw2 := hw.symm
  subst hw2
  clear hw hm
  gi_wp2_with fail
  refine ⟨trivial, (callsIn_wide.2 hr).mono ?_⟩
  rintro e w1 ⟨rfl, F1', hl1, hn1⟩
  have p2 := P1.out.log hl1 hn1 (rst_per _)
  have c21 := p2.sm.c2
  have P2 := mkH p2
  have HN1 := mkH (P1.out.nx1 hn1)
  have hx1 : w1.heap[w.heap.size]? = _ := (HN1.out.1.heap (block_lt HBX.out) (fun x => by have := hFl _ x; omega)).trans HBX.out
  have cx1 : w1.cell? ⟨w.heap.size, 0, none⟩ = some (.pointer (some ⟨S, 0, none⟩)) := by rw [cell_of_row _ _ _ _ _ _ hx1]; rfl
  have HX1 := mkH hx1
  have HT2 := mkH (tb_fr HT1.out HN1.out.1 h0)
  have hrd := Dc.restart_any p2.ds
  rw [(rs_sd hdn).1, (rs_sd hdn).2] at hrd
  clear hl1 hn1 p2 hx1 cx hr c1
  gi_wp2_with fail
  refine ⟨trivial, (callsIn_wide.2 hrd).mono ?_⟩
  rintro e w2 ⟨rfl, hd2, hn2⟩
  have p3 := P2.out.disk hd2 hn2
  have HN2 := mkH (P2.out.nx2 hn2)
  have hx2 : w2.heap[w.heap.size]? = _ := (HN2.out.1.heap (block_lt HX1.out) (fun x => by rcases x with x | x; have := hFl _ x; omega; omega)).trans HX1.out
  have cx2 : w2.cell? ⟨w.heap.size, 0, none⟩ = some (.pointer (some ⟨S, 0, none⟩)) := by rw [cell_of_row _ _ _ _ _ _ hx2]; rfl
  have HX2 := mkH hx2
  have hT3 : Tb w2 := tb_fr HT2.out HN2.out.1 (fun x => by rcases x with x | x; exact h0 x; omega)
  have HT3 := mkH hT3
  have hrc := recall_any p3.sm t.sn p3.ds hT3 hS0 p3.s2 HI.out.wf.ok0
  have P3 := mkH p3
  clear hd2 hn2 p3 hx2 hT3 hrd cx1 c21
  gi_wp2_with fail
  refine ⟨trivial, (callsIn_wide.2 hrc).mono ?_⟩
  rintro e w3 ⟨⟨v, rfl⟩, hs3, hf3⟩
  have hf3' : Fr (fun k => k = S ∨ k = Mb) w2 w3 := hf3.mono (fun k hk => .inl hk)
  have p4 := P3.out.own hs3 hf3' (.inr (Nat.le_refl _))
  have HN3 := mkH (P3.out.nxo hf3')
  have hSw : S < w.heap.size := hFl S (P1.out.sF)
  have hx3 : w3.heap[w.heap.size]? = _ := (hf3.heap (block_lt HX2.out) (by omega)).trans HX2.out
  have cx3 : w3.cell? ⟨w.heap.size, 0, none⟩ = some (.pointer (some ⟨S, 0, none⟩)) := by rw [cell_of_row _ _ _ _ _ _ hx3]; rfl
  have c31 := p4.sm.c1
  have HX3 := mkH hx3
  have P4 := mkH p4
  have HT4 := mkH (tb_fr HT3.out hf3 (fun e => hS0 e.symm))
  have hir := HI.out.rs
  have hrec := records_any p4.lg hir.inv.p1 hir.inv.n
  have hs23 := hf3.size
  have hs12 := HN2.out.size
  have hs01 := HN1.out.size
  clear hs3 hf3 hf3' p4 hx3 hrc cx2
  gi_wp2_with fail
  refine ⟨trivial, (callsIn_wide.2 hrec).mono ?_⟩
  rintro e w4 ⟨Bb, Ba, ar, n, cr, l, rfl, cb, ca, hln, hnb, hbs⟩
  gi_wp2_with fail
  have hMl := P4.out.sm.mlt
  have hb34 := hnb.below
  have hes : es (rst t.h) = (rst t.h).segs := by simp [es, rst_dn]
  have hall : all (es (rst t.h)) = (Tt.rs t).rl.map eR := by rw [hes]; exact hir.rcd
  have hn2 : n ≤ 256 := by
    have := congrArg List.length hbs
    simp only [List.length_map] at this
    rw [← hln, this, hes]
    exact hir.inv.n
  have hseq := records1_seq (fun k => k = S ∨ k = w2.heap.size) w4 Bb Ba (nb (rst t.h)) n ar cr l (es (rst t.h)) (HT4.out.below hb34 HT4.out.size) (Nat.le_trans (es_len hir.inv) hN) cb ca hln hn2 (by
      have := hnb.own
      rw [hln] at this
      refine ⟨this.1, ?_⟩
      rcases this.2 with x | ⟨g, c', cur, e1, e2, e3⟩
      · exact .inl x
      · exact .inr ⟨g, c', cur, e1, Nat.zero_le _, e3⟩)
    (fun g hg x => by
      have := hnb.own
      rw [hln] at this
      have := (own_blk this hg).2
      rcases x with x | x <;> omega)
    (fun x hx => ⟨(hnb.ok x hx).1.1, fun b off e h0 y => by have := ((hnb.ok x hx).2 b off e h0).1; rcases y with y | y <;> omega⟩) hbs (es_fits hir.inv) (fun x => by rcases x with x | x; exact hS0 x.symm; omega) (fun k x => by have := hb34.size; have := P4.out.sm.mlt; rcases x with x | x; omega; omega)
  have hx4 : w4.heap[w.heap.size]? = _ := (hb34.block _ (block_lt HX3.out)).trans HX3.out
  have P5 := mkH (P4.out.below hb34)
  have HX4 := mkH hx4
  have HALL := mkH hall
  have HIR := mkH hir
  have HWF : Hid (Wf (s0 t) (Tt.rs t).rl) := hir.wf
  have hs34 := hb34.size
  have HB34 := mkH hb34
  clear hrec cb ca hln hnb hbs cx3 c31 hx4 hes hir hb34
  refine rf_ownF (by omega) (gf := 59) (lb := #[.pointer (some ⟨Bb, 0, none⟩), .pointer (some ⟨Ba, 0, none⟩)]) rfl (enters_of Tryz.func59 (by kernel_rfl) rfl) hseq (Below.refl _ _) (fun k x => by rcases x with x | x <;> omega) rfl
    (fun k W' => Sm W' S B D w2.heap.size (rst t.h).per (rp (s0 t) ((Tt.rs t).rl.take k)) ∧ Fr (fun k => k = S ∨ k = w2.heap.size) w4 W')
    (fun k A A' hj hf => ⟨hj.1.fr hf (by omega) (by omega), hj.2.trans hf (fun i hi => .inr hi)⟩) ⟨by rw [List.take_zero]; exact P5.out.sm, Fr.refl _ _⟩
    (fun pl b aq cq => { tmps := #[.pointer (some ⟨S, 0, none⟩), .pointer (some ⟨w.heap.size, 0, none⟩), .int .i64 0, .int .i64 0, .int .i64 0, undef, .slice aq b.length cq, .pointer (some ⟨S, 0, none⟩), .bool true, .bool false, .pointer (some ⟨S, 0, none⟩), .pointer (some ⟨S, 0, none⟩), .pointer (some ⟨S, 1, none⟩), .pointer (some ⟨B, 0, none⟩), .int .i64 0, .int .i64 0, .bool false, undef, .pointer (some ⟨S, 0, none⟩), .pointer (some ⟨S, 0, none⟩), .pointer (some ⟨S, 2, none⟩), .pointer (some ⟨D, 0, none⟩), .int .i64 0, .int .i64 0, .bool false, undef, .pointer (some ⟨S, 0, none⟩), v, .pointer (some ⟨S, 0, none⟩), .pointer (some ⟨S, 0, none⟩), .pointer (some ⟨S, 1, none⟩), .pointer (some ⟨B, 0, none⟩), .func (.func 59) #[] #[.pointer (some ⟨Bb, 0, none⟩), .pointer (some ⟨Ba, 0, none⟩)], .int .i64 (pl : Int), .slice aq b.length cq, undef, undef, undef], defers := [] }) ?assign ?body ?done
  case assign =>
    intro l' pl b aq cq W' K hK
    gi_wp2
    exact hK
  case body =>
    rintro l' k pl b aq cq W0 Wb hl1 - hfb ⟨hsm, hfr⟩ - hL hrow hcc
    obtain ⟨-, hbk⟩ := rcs_of hL
    rw [HALL.out, List.getElem?_map] at hbk
    obtain ⟨r, hr, hre⟩ : ∃ r, (Tt.rs t).rl[k]? = some r ∧ eR r = b := by
      cases hx : (Tt.rs t).rl[k]? with
      | none => rw [hx] at hbk; cases hbk
      | some r => rw [hx] at hbk; exact ⟨r, rfl, Option.some.inj hbk⟩
    subst hre
    have hxb : Wb.heap[w.heap.size]? = _ := (hfr.heap (block_lt HX4.out) (fun x => by rcases x with x | x <;> omega)).trans HX4.out
    have cxb : Wb.cell? ⟨w.heap.size, 0, none⟩ = some (.pointer (some ⟨S, 0, none⟩)) := by rw [cell_of_row _ _ _ _ _ _ hxb]; rfl
    have hok : OkM (rp (s0 t) ((Tt.rs t).rl.take k)) := (HWF.out.take k).ok
    have hap := apply_any hsm hok r (HWF.out.okR hr) aq cq hrow hcc.1 hcc.2
    have hnx : rp (s0 t) ((Tt.rs t).rl.take (k + 1)) = ap (rp (s0 t) ((Tt.rs t).rl.take k)) r := by rw [List.take_add_one, hr, Option.toList_some, rp_snoc]
    have HNX := mkH hnx
    have HFR := mkH hfr
    obtain ⟨bl, hbl⟩ : ∃ bl, (eR r).length = bl := ⟨_, rfl⟩
    rw [hbl] at hap ⊢
    have HAP := mkH hap
    clear hxb hsm hfr hbk hr hL hrow hcc hok hap hnx hbl
    gi_wp2_with fail
    refine ⟨trivial, (CallsIn.inRound l' (callsIn_wide.2 HAP.out)).mono ?_⟩
    rintro e w6 ⟨⟨v6, rfl⟩, hs6, hf6⟩
    have HS6 := mkH hs6
    have HF6 := mkH hf6
    clear hs6 hf6
    gi_wp2
    exact ⟨HF6.out, by rw [HNX.out]; exact HS6.out, HFR.out.trans HF6.out (fun i hi => .inl hi)⟩
  case done =>
    rintro D' W' hD ⟨hsm, hfr⟩ hK
    rw [rcs_len, HALL.out, List.length_map, List.take_length] at hsm
    have HS7 := mkH hsm
    have HF7 := mkH hfr
    have HK := mkH hK
    clear hsm hfr hK
    gi_wp2
    refine ⟨by simp, .inl ⟨_, _, rfl, run_takeDeferred HK.out, ?_⟩⟩
    have hfp : Fr (fun k => k = D') W' (W'.putObj D' (.deferred none)) := fr_put _ _ _
    have hs8 := HS7.out.fr hfp (by omega) (by omega)
    have hf8 : Fr (fun k => k = S ∨ k = w2.heap.size) w4 (W'.putObj D' (.deferred none)) := HF7.out.trans hfp (fun i hi => .inr (by omega))
    refine ⟨_, results_tmp rfl _ _ _, rfl, Nw (Nw (Nw (Nw F W w1) w1 w2) w2 w3) w4 (W'.putObj D' (.deferred none)), ⟨B, D, w2.heap.size, F1', F2, ?_⟩, ?_⟩
    · rw [sd_rs]
      exact P5.out.own hs8 hf8 (.inl rfl)
    · exact ((((Nx.ofBelow HB.out).trans HN1.out).trans HN2.out).trans HN3.out).trans ((Nx.ofBelow HB34.out).trans (P5.out.nxo hf8))
theorem restart_any (h : Sr w F S t) (hi : TI N t) (hN : N ≤ 1000000) (hT : Tb w) (h0 : ¬ F 0) :
    Calls Tryz.prog 12 #[.pointer (some ⟨S, 0, none⟩)] w fun e w' => e = .returned (.int .i64 (rE t)) ∧ ∃ F', Sr w' F' S (Tt.rs t) ∧ Nx F w w' F' := by
  cases hd : t.h.dn with
  | none =>
    have e1 : rE t = 9 := by simp [rE, dn, hd]
    rw [e1, rs_up hi hd]
    refine (restart_upS h hi hd).mono ?_
    rintro e w' ⟨rfl, hb⟩
    exact ⟨rfl, F, h.below hb, Nx.ofBelow hb⟩
  | some q =>
    have e1 : rE t = 0 := by simp [rE, dn, hd]
    rw [e1]
    exact restart_dnS h hi hN hT h0 hd
end
end Go.Proofs.YthmedpabgblddabGreatDoor.Tk

namespace Go.Proofs.YthmedpabgblddabGreatDoor.Tf
open Go.RowKit Kt Dk Tp Tm Pl Cs Cf Cv Se Rd Wr Ta Tb0 Tc Ts Te Ks Go.Maps
set_option linter.unusedVariables false
set_option maxRecDepth 20000

set_option maxHeartbeats 4000000 in
theorem body_any {w : World} {S B D Mb per : Nat} {m : M} (h : Sm w S B D Mb per m) (ho : OkM m) :
    Calls Tryz.prog 37 #[.pointer (some ⟨S, 0, none⟩)] w fun e w' => ∃ ao cap, e = .returned (.slice ao (eM m).length cap) ∧ w'.ownsRow w.heap.size 5 1 (.slice ao (eM m).length cap) (eM m).length (U (eM m)) ∧ Below w.heap.size w w' := by
  have HH := mkH h
  have HO := mkH ho
  have hpr := ho.pr
  have hba := ho.ba
  have hll := ho.len
  have hml := ho.elen
  have HKS : Hid (∀ W, Below w.heap.size w W → W.cell? ⟨S, 3, none⟩ = some (.int .i64 (m.pr : Int)) ∧ W.cell? ⟨S, 4, none⟩ = some (.int .i64 (m.ba : Int)) ∧ W.cell? ⟨S, 5, none⟩ = some (.map (some Mb)) ∧ ∀ ty, (Builtin.len_ #[46] ty #[.map (some Mb)]).run Tryz.prog W = .ok (.int .i64 (m.sl.length : Int)) W) := fun W hW => by
    have h1 := HH.out.below hW
    refine ⟨h1.c3, h1.c4, h1.c5, fun ty => ?_⟩
    have := World.ownsMap.len h1.mp Tryz.underlying46 ty
    rw [Dm_size] at this
    exact this
  have HA : Hid (∀ q, Calls Tryz.prog 24 #[.slice none 0 0, .slice (some ⟨w.heap.size, 0, none⟩) 3 3] ((w.drewN q).alloc (.cells #[.int .i64 (m.pr : Int), .int .i64 (m.ba : Int), .int .i64 (m.sl.length : Int)] 3)) fun e w' => ∃ ao cap, e = .returned (.slice ao (flat [m.pr, m.ba, m.sl.length]).length cap) ∧ w'.ownsRow w.heap.size 5 1 (.slice ao (flat [m.pr, m.ba, m.sl.length]).length cap) (flat [m.pr, m.ba, m.sl.length]).length (U (flat [m.pr, m.ba, m.sl.length])) ∧ Below w.heap.size w w') := fun q => by
    refine (addNums3 (w.drewN q) m.pr m.ba m.sl.length (by omega) (by omega) (by omega)).mono ?_
    rintro e w' ⟨ao, cap, rfl, h1, h2⟩
    exact ⟨ao, cap, rfl, h1, (below_drewN (Below.refl _ _) q).trans h2⟩
  have hmx : Tryz.prog.follows .mixedOrders = true := by kernel_rfl
  obtain ⟨b0, hb0⟩ : ∃ b0, flat [m.pr, m.ba, m.sl.length] = b0 := ⟨_, rfl⟩
  rw [hb0] at HA
  have HB0 := mkH hb0
  have hb0l : b0.length ≤ 27 := by
    rw [← hb0]
    have := enc_len9 (n := m.pr) (by omega)
    have := enc_len9 (n := m.ba) (by omega)
    have := enc_len9 (n := m.sl.length) (by omega)
    simp [flat]; omega
  clear h ho hb0
  go_enter Tryz.func37, Tryz.ntmps37
  go_wp2_with fail
  go_region_held3 (fun W => W.cell? ⟨S, 3, none⟩ = some (.int .i64 (m.pr : Int)) ∧ W.cell? ⟨S, 4, none⟩ = some (.int .i64 (m.ba : Int)) ∧ W.cell? ⟨S, 5, none⟩ = some (.map (some Mb)) ∧ ∀ ty, (Builtin.len_ #[46] ty #[.map (some Mb)]).run Tryz.prog W = .ok (.int .i64 (m.sl.length : Int)) W)
    (first | exact HKS.out _ (below_drewN (Below.refl _ _) 1) | exact HKS.out _ ((below_drewN (Below.refl _ _) 1).alloc (Nat.le_refl _) _) | exact hkeep1) (first
    | (go_at_call 24; refine (HA.out 1).mono ?_; rintro e w1 ⟨ao, cp, rfl, ho1, hbw1⟩; have hkeep1 := HKS.out _ hbw1))
  have c5 := hkeep1.2.2.1
  have HO1 := mkH ho1
  have HB1 := mkH hbw1
  have HM1 := mkH ((HH.out.below hbw1).mp)
  have hs1 := hbw1.size
  clear hkeep1 ho1 hbw1 HA
  go_wp2_with fail
  refine (keys_any (some Mb) w1).mono ?_
  rintro e w2 ⟨rfl, hw2⟩
  subst hw2
  go_wp2_with fail
  refine (sorted_any HM1.out HO.out.srt (by omega)).mono ?_
  rintro e w3 ⟨ka, kc, rfl, hk3, hb3⟩
  have hB13 : Below w1.heap.size w1 w3 := ((Below.refl _ w1).alloc (Nat.le_refl _) _).trans (hb3.mono (by omega))
  have HB3 : Hid (Below w.heap.size w w3) := HB1.out.trans (hB13.mono hs1)
  have HO3 : Hid (w3.ownsRow w.heap.size 5 1 (.slice ao b0.length cp) b0.length (U b0)) := own_below HO1.out hB13
  have HK3 := mkH hk3
  clear hk3 hb3 hB13 c5
  go_wp2_with fail
  go_loopw [3, 29] (fun bv i wr => ∃ (j : Nat) (bo : Option Addr) (bc : Nat), j ≤ m.sl.length ∧ i = .int .i64 (j : Int) ∧ bv = .slice bo (b0 ++ eS (m.sl.take j)).length bc ∧ (b0 ++ eS (m.sl.take j)).length ≤ 27 + 327 * j ∧ Hid (wr.ownsRow w.heap.size 5 1 (.slice bo (b0 ++ eS (m.sl.take j)).length bc) (b0 ++ eS (m.sl.take j)).length (U (b0 ++ eS (m.sl.take j)))) ∧ Hid (wr.ownsRow (w1.heap.size + 1) 3 1 (.slice ka m.sl.length kc) m.sl.length (iK m.sl)) ∧ Hid (Below w.heap.size w wr))
    (fun _ i _ => m.sl.length - (intOf i).toNat)
  case atStart => exact ⟨0, ao, cp, Nat.zero_le _, rfl, by simp [eS], by simp [eS]; omega, mkH (by simpa [eS] using HO3.out), HK3, HB3⟩
  case round =>
    obtain ⟨j, bo, bc, hj, rfl, rfl, hL, HW, HK, HB⟩ := hrel
    rcases Nat.lt_or_ge j m.sl.length with hjl | hjl
    · obtain ⟨⟨k, u⟩, hku⟩ : ∃ p, m.sl[j]? = some p := ⟨_, List.getElem?_eq_getElem hjl⟩
      have hmem : (k, u) ∈ m.sl := List.mem_of_getElem? hku
      have hat := mem_atS HO.out.srt hmem
      have hok := HO.out.at' _ hmem
      simp only at hok
      have e1 := eS_take hku
      obtain ⟨L, hLL⟩ : ∃ L, (b0 ++ eS (m.sl.take j)).length = L := ⟨_, rfl⟩
      obtain ⟨kb, rfl⟩ : ∃ kb, ka = some ⟨kb, 0, none⟩ := by
        rcases HK.out.2 with ⟨e, h0⟩ | ⟨g, cap, cur, e, -⟩
        · omega
        · simp only [Value.slice.injEq] at e
          exact ⟨g, e.1⟩
      have hck : wr.cell? ⟨kb, j, none⟩ = some (.int .i64 (k : Int)) := by
        have := World.ownsRow.cellAt HK.out j (by omega)
        rw [this]
        simp [iK, hku]
      have hc5 := (HKS.out wr HB.out).2.2.1
      have hsm := HH.out.below HB.out
      have hlk := look_at hsm.mp (k := k) (by omega) hat
      obtain ⟨bl, vl⟩ := u
      simp only at hok hlk e1
      have hsw : w.heap.size ≤ wr.heap.size := HB.out.size
      obtain ⟨fl, hfl⟩ : ∃ fl, flat [k, bl, vl.length] = fl := ⟨_, rfl⟩
      have hfll : fl.length ≤ 27 := by
        rw [← hfl]
        have := enc_len9 (n := k) (by omega)
        have := enc_len9 (n := bl) (by omega)
        have := enc_len9 (n := vl.length) (by omega)
        simp [flat]; omega
      rw [hfl] at e1
      have hL2 : (b0 ++ eS (m.sl.take (j + 1))).length = L + fl.length + vl.length := by rw [e1, ← hLL]; simp; omega
      have HE := mkH e1
      have HL2 := mkH hL2
      have HFL := mkH hfl
      have HLL := mkH hLL
      rw [hLL] at HW hL ⊢
      have d0 : (wr.alloc (.cells #[.int .i64 (bl : Int), .string ⟨vl.toArray⟩] 63)).cell? ⟨wr.heap.size, 0, none⟩ = some (.int .i64 (bl : Int)) := Cw.cell_new_at wr _ _ 0 _ rfl
      have d1 : (wr.alloc (.cells #[.int .i64 (bl : Int), .string ⟨vl.toArray⟩] 63)).cell? ⟨wr.heap.size, 1, none⟩ = some (.string ⟨vl.toArray⟩) := Cw.cell_new_at wr _ _ 1 _ rfl
      have hbv : Below wr.heap.size wr (wr.alloc (.cells #[.int .i64 (bl : Int), .string ⟨vl.toArray⟩] 63)) := (Below.refl _ wr).alloc (Nat.le_refl _) _
      have hsv : (wr.alloc (.cells #[.int .i64 (bl : Int), .string ⟨vl.toArray⟩] 63)).heap.size = wr.heap.size + 1 := by simp
      have HWv := mkH (own_below HW.out hbv)
      have HKv := mkH (own_below HK.out hbv)
      have HBv : Hid (Below w.heap.size w (wr.alloc (.cells #[.int .i64 (bl : Int), .string ⟨vl.toArray⟩] 63))) := HB.out.trans (hbv.mono hsw)
      have HVB : Hid ((wr.alloc (.cells #[.int .i64 (bl : Int), .string ⟨vl.toArray⟩] 63)).heap[wr.heap.size]? = some (.cells #[.int .i64 (bl : Int), .string ⟨vl.toArray⟩] 63 (0, 0))) := heap_alloc_new wr _
      have hvs : (ByteArray.size ⟨vl.toArray⟩ : Nat) = vl.length := by simp [ByteArray.size]
      clear hmem hat hsm e1 hL2 hfl hku hLL
      go_wp2_with fail
      generalize wr.alloc (.cells #[.int .i64 (bl : Int), .string ⟨vl.toArray⟩] 63) = wv at *
      have HKV : Hid (∀ W, Fr (fun q => (Value.slice bo L bc).ownBlock = some q) wv W → W.cell? ⟨wr.heap.size, 0, none⟩ = some (.int .i64 (bl : Int)) ∧ W.cell? ⟨wr.heap.size, 1, none⟩ = some (.string ⟨vl.toArray⟩)) := fun W hW => by
        have hnb : ¬ (Value.slice bo L bc).ownBlock = some wr.heap.size := fun e => by have := (HW.out.lt _ e).2; omega
        exact ⟨(World.cell?_of_block (w := wv) (hW.heap (k := wr.heap.size) (by omega) hnb)).trans d0, (World.cell?_of_block (w := wv) (hW.heap (k := wr.heap.size) (by omega) hnb)).trans d1⟩
      have HA2 : Hid (∀ q, Calls Tryz.prog 24 #[.slice bo L bc, .slice (some ⟨wr.heap.size + 1, 0, none⟩) 3 3] ((wv.drewN q).alloc (.cells #[.int .i64 (k : Int), .int .i64 (bl : Int), .int .i64 (vl.length : Int)] 3)) fun e w' => ∃ a2 c2, e = .returned (.slice a2 (L + fl.length) c2) ∧ w'.ownsRow w.heap.size 5 1 (.slice a2 (L + fl.length) c2) (L + fl.length) (U (b0 ++ eS (m.sl.take j) ++ fl)) ∧ Fr (fun q => (Value.slice bo L bc).ownBlock = some q) wv w') := fun q => by
        have hbq : Below wv.heap.size wv ((wv.drewN q).alloc (.cells #[.int .i64 (k : Int), .int .i64 (bl : Int), .int .i64 (vl.length : Int)] 3)) := (below_drewN (Below.refl _ _) q).alloc (Nat.le_refl _) _
        have ho := own_below HWv.out hbq
        have hnb : ((wv.drewN q).alloc (.cells #[.int .i64 (k : Int), .int .i64 (bl : Int), .int .i64 (vl.length : Int)] 3)).heap[wv.heap.size]? = some (.cells _ 3 (0, 0)) := heap_alloc_new (wv.drewN q) _
        have := addNums_any ((wv.drewN q).alloc (.cells #[.int .i64 (k : Int), .int .i64 (bl : Int), .int .i64 (vl.length : Int)] 3)) w.heap.size bo bc (b0 ++ eS (m.sl.take j)) (by rw [HLL.out]; exact ho) (by have := hbq.size; omega) (by rw [HLL.out]; omega) wv.heap.size [k, bl, vl.length] 3 (by simp) (cells3 (wv.drewN q) k bl vl.length) (fun x hx => by simp only [List.mem_cons, List.not_mem_nil, or_false] at hx; rcases hx with rfl | rfl | rfl <;> omega) (by rw [HLL.out]; exact own_apart ho hnb (by decide))
        rw [HFL.out] at this
        have hx : (b0 ++ eS (m.sl.take j) ++ fl).length = L + fl.length := by rw [List.length_append, HLL.out]
        rw [hx, HLL.out] at this
        simp only [List.length_cons, List.length_nil, hsv] at this
        refine this.mono ?_
        rintro e w' ⟨a2, c2, rfl, h1, h2, -⟩
        exact ⟨a2, c2, rfl, h1, (Fr.ofBelow hbq).trans h2 (fun i hi => .inl hi)⟩
      have HKV2 : Hid (∀ (w5 w6 : World) (a2 : Option Addr) (c2 n2 : Nat) , Fr (fun q => (Value.slice bo L bc).ownBlock = some q) wv w5 → w5.ownsRow w.heap.size 5 1 (.slice a2 n2 c2) n2 (U (b0 ++ eS (m.sl.take j) ++ fl)) → w5.grownBy w6 (Value.slice a2 n2 c2).ownBlock → w6.cell? ⟨wr.heap.size, 0, none⟩ = some (.int .i64 (bl : Int)) ∧ w6.cell? ⟨wr.heap.size, 1, none⟩ = some (.string ⟨vl.toArray⟩)) := fun w5 w6 a2 c2 n2 hf5 ho5 hg6 => by
        have hnb : ¬ (Value.slice bo L bc).ownBlock = some wr.heap.size := fun e => by have := (HW.out.lt _ e).2; omega
        have hv5 : w5.heap[wr.heap.size]? = _ := (hf5.heap (k := wr.heap.size) (by omega) hnb).trans HVB.out
        have hne : ¬ (Value.slice a2 n2 c2).ownBlock = some wr.heap.size := own_apart ho5 hv5 (by decide)
        have hb6 := (fr_by hg6).heap (block_lt hv5) hne
        obtain ⟨x, y⟩ := HKV.out w5 hf5
        exact ⟨(World.cell?_of_block (w := w5) hb6).trans x, (World.cell?_of_block (w := w5) hb6).trans y⟩
      go_region_held3 (fun W => W.cell? ⟨wr.heap.size, 0, none⟩ = some (.int .i64 (bl : Int)) ∧ W.cell? ⟨wr.heap.size, 1, none⟩ = some (.string ⟨vl.toArray⟩))
        (first | exact HKV.out _ (Fr.ofBelow (below_drewN (Below.refl _ _) 1)) | exact HKV.out _ (Fr.ofBelow ((below_drewN (Below.refl _ _) 1).alloc (Nat.le_refl _) _)) | exact hkeep2 | exact hkeep3) (first
        | (go_at_call 24; refine (HA2.out 1).mono ?_; rintro e w5 ⟨a2, c2, rfl, ho5, hf5⟩; have hkeep2 := HKV.out _ hf5)
        | (refine atApp (.tmp 47) (.tmp 49) 30 9 ?_ ?_; rfl; refine step_append_own_src (by rfl) (.tmp 47) (.tmp 49) 30 9 (by rfl) w.heap.size 5 (.int .u8 0) 1 1 Tryz.underlying30 Da.info5 (by rfl) (by decide) (.slice a2 (L + fl.length) c2) (L + fl.length) (U (b0 ++ eS (m.sl.take j) ++ fl)) (by rfl) (by exact ho5) (.string ⟨vl.toArray⟩) vl.length (U vl) (by rfl) (by exact Src.ofString _ Tryz.underlying9 ⟨vl.toArray⟩) (by unfold maxLen; omega) (by omega) (by have := hf5.size; omega) ?_; intro v6 w6 ho6 hg6; have hkeep3 : w6.cell? ⟨wr.heap.size, 0, none⟩ = some (.int .i64 (bl : Int)) ∧ w6.cell? ⟨wr.heap.size, 1, none⟩ = some (.string ⟨vl.toArray⟩) := HKV2.out _ _ _ _ _ hf5 ho5 hg6))
      clear hkeep2 hkeep3
      have hf6 : Fr (fun q => (Value.slice a2 (L + fl.length) c2).ownBlock = some q) w5 w6 := fr_by hg6
      have hk5 := own_fr HKv.out hf5 (fun q hq hx => own_kinds HKv.out HWv.out (by decide) q hq hx)
      have hk6 := own_fr hk5 hf6 (fun q hq hx => own_kinds hk5 ho5 (by decide) q hq hx)
      have hb5 : Below w.heap.size w w5 := HBv.out.trans (hf5.below (fun q hq => (HWv.out.lt q hq).1) HBv.out.size)
      have hb6 : Below w.heap.size w w6 := hb5.trans (hf6.below (fun q hq => (ho5.lt q hq).1) hb5.size)
      obtain ⟨a6, c6, rfl⟩ := own_form ho6
      have hown6 : Hid (w6.ownsRow w.heap.size 5 1 (.slice a6 (b0 ++ eS (m.sl.take (j + 1))).length c6) (b0 ++ eS (m.sl.take (j + 1))).length (U (b0 ++ eS (m.sl.take (j + 1))))) := by
        show World.ownsRow _ _ _ _ _ _ _
        rw [HL2.out, HE.out]
        simp only [← List.append_assoc]
        rw [U_append (b0 ++ eS (m.sl.take j) ++ fl)]
        exact ho6
      have HK6 := mkH hk6
      have HB6 := mkH hb6
      clear hf6 hk5 hk6 hb5 hb6 ho5 hf5 ho6 hg6 d0 d1
      go_wp2
      go_roundw
      case rel => exact ⟨j + 1, a6, c6, by omega, by go_num, by rw [HL2.out], by rw [HL2.out]; omega, hown6, HK6, HB6⟩
      case measure => simp [intOf]; omega
    · have hjn : j = m.sl.length := by omega
      subst hjn
      rw [List.take_length] at HW hL ⊢
      have hee : b0 ++ eS m.sl = eM m := by rw [eM_is, HB0.out]
      have HEE := mkH hee
      rw [hee] at HW hL ⊢
      clear hee
      obtain ⟨L, hLf⟩ : ∃ L, (eM m).length = L := ⟨_, rfl⟩
      have HLF := mkH hLf
      rw [hLf] at HW hL ⊢
      clear hLf
      have hd : decide ((m.sl.length : Int) < (m.sl.length : Int)) = false := by simp
      go_wp2
      go_ret
      rw [HLF.out]
      exact ⟨bo, bc, rfl, HW.out, HB.out⟩
end Go.Proofs.YthmedpabgblddabGreatDoor.Tf

namespace Go.Proofs.YthmedpabgblddabGreatDoor.Tl
open Go.RowKit Kt Dk Dp Da Dc De Tp Tm Pl Cs Cf Cn Cv Sq Sr Sa Sb Sc Se St Sv Rd Wr Ta Tb0 Tc Td Te Tf Tg Tt Th Ti Tj Go.Maps
set_option linter.unusedVariables false
set_option maxRecDepth 20000

section
variable {w : World} {F : Nat → Prop} {S : Nat} {t : Tt.T} {N : Nat}
set_option maxHeartbeats 2000000 in
theorem snapshot_any (h : Sr w F S t) (hi : TI N t) (hT : Tb w) (h0 : ¬ F 0) :
    Calls Tryz.prog 16 #[.pointer (some ⟨S, 0, none⟩)] w fun e w' => e = .returned (.int .i64 (yE t)) ∧ ∃ F', Sr w' F' S (nT t) ∧ Nx F w w' F' := by
  have hsy := sync_any h hi
  have hFl := h.lt
  cases hd : dn t with
  | true =>
    have e1 : yE t = 10 := by simp [yE, hd]
    have e2 : sy t = t := by simp [sy, syH, show t.h.dn.isSome = true from hd]
    have e3 : nT t = t := by simp [nT, hd]
    rw [e1, e2] at hsy
    rw [e1, e3]
    clear e1 e2 e3 hd
    go_enter Tryz.func16, Tryz.ntmps16
    go_wp2_with fail
    refine hsy.mono ?_
    rintro e w1 ⟨rfl, h1⟩
    have H1 := mkH h1
    clear h1
    go_wp2
    go_ret
    exact ⟨rfl, H1.out⟩
  | false =>
    have e1 : yE t = 0 := by simp [yE, hd]
    have e3 : nT t = sp t := by simp [nT, hd]
    rw [e1] at hsy
    rw [e1, e3]
    have HI := mkH hi
    have HT := mkH hT
    have HD := mkH hd
    clear e1 e3 hd hi hT
    go_enter Tryz.func16, Tryz.ntmps16
    go_wp2_with fail
    refine hsy.mono ?_
    rintro e w1 ⟨rfl, Fa, h1, hn1⟩
    have hok := HI.out.ok
    have hT1 : Tb w1 := tb_fr HT.out hn1.1 h0
    have h01 : ¬ Fa 0 := fun x => by rcases hn1.2 0 x with y | y; exact h0 y; have := HT.out.size; omega
    obtain ⟨ts, hts⟩ : ∃ ts, sy t = ts := ⟨_, rfl⟩
    have hmt : mm ts = mm t := by rw [← hts]; rfl
    have hpt : ts.h.per = t.h.per := by rw [← hts]; exact syH_per _
    have hdt : dn ts = false := by rw [← hts, dn_sy]; exact HD.out
    rw [hts] at h1
    rw [← hmt] at hok
    have HMT := mkH hmt
    have HPT0 := mkH hpt
    have HDT := mkH hdt
    clear hts hmt hpt hdt
    obtain ⟨B, D, Mb, F1, F2, p1⟩ := h1
    have hbd := body_any p1.sm hok
    have P1 := mkH p1
    have HN1 := mkH hn1
    have HT1 := mkH hT1
    have hel := hok.elen
    clear hsy hn1 hT1 p1
    go_wp2_with fail
    refine hbd.mono ?_
    rintro e w2 ⟨ao, cap, rfl, ho2, hb2⟩
    obtain ⟨-, hcl, hrow⟩ := Row.own ho2
    have hfr := frame_ok w2 ao cap (eM (mm ts)) (HT1.out.below hb2 HT1.out.size) hrow (by omega)
    have P2 := mkH (P1.out.below hb2)
    have HB2 := mkH hb2
    clear hbd ho2 hcl hrow hb2
    go_wp2_with fail
    refine hfr.mono ?_
    rintro e w3 ⟨v3, rfl, ho3, hb3⟩
    have hfl := frame_len (eM (mm ts))
    rw [← hfl] at ho3
    obtain ⟨ao3, cap3, rfl, -, hcl3, hrow3⟩ := own_row ho3
    have P3 := mkH (P2.out.below hb3)
    have HB3 := mkH hb3
    have HR3 := mkH hrow3
    have c0 := P3.out.sm.c0
    have hp1 := HI.out.inv.p1
    have hp2 := HI.out.inv.p2
    obtain ⟨per, hper⟩ : ∃ per, ts.h.per = per := ⟨_, rfl⟩
    have HPER := mkH hper
    have hpt := HPT0.out
    rw [hper] at c0 hpt
    clear hper
    have hnew := Sa.new_any w3 per (by omega) (by omega)
    have HPT := mkH hpt
    clear hpt hp1 hp2
    have hb2s := HB2.out.size
    have hlo3 : ∀ b off, ao3 = some ⟨b, off, none⟩ → 0 < (Cp.frame (eM (mm ts))).length → w2.heap.size ≤ b := fun b off e h00 => by
      rcases ho3.2 with ⟨e1, e2⟩ | ⟨g, c, cur, e1, e2, -⟩
      · omega
      · simp only [Value.slice.injEq] at e1
        rw [e1.1] at e
        simp only [Option.some.injEq, Addr.mk.injEq, and_true] at e
        omega
    have HLO := mkH hlo3
    clear hfr ho3 hcl3 hrow3 hb3 hlo3
    obtain ⟨FL, hFL⟩ : ∃ FL, (Cp.frame (eM (mm ts))).length = FL := ⟨_, rfl⟩
    have hFLb : FL ≤ 30000 := by rw [← hFL, hfl]; omega
    rw [hFL]
    have HFL := mkH hFL
    clear hFL hfl
    go_wp2_with fail
    refine hnew.mono ?_
    rintro e w4 ⟨rfl, hl4, hb4⟩
    have P4 := mkH (P3.out.below hb4)
    have HL4 := mkH hl4
    have HB4 := mkH hb4
    have c2 := P4.out.sm.c2
    have hsw := swap_any P4.out.ds ao3 cap3 (Cp.frame (eM (mm ts))) (HR3.out.below hb4) (by rw [HFL.out]; omega)
    have e4 : swpE (sd ts) FL = 0 := by simp only [swpE, sd, HDT.out]; simp; omega
    have e5 : swpS (sd ts) (Cp.frame (eM (mm ts))) = sd (sp t) := by
      simp only [swpS, sd, HDT.out, dn_sp, HFL.out]
      rw [if_neg (by simp), if_neg (by omega), HMT.out]
      rfl
    rw [HFL.out, e4, e5] at hsw
    clear hnew hl4 hb4 e4 e5 c0
    go_wp2_with fail
    refine hsw.mono ?_
    rintro e w5 ⟨rfl, F2', hd5, hn5⟩
    have P5 := mkH (P4.out.disk hd5 hn5)
    have HN5 := mkH (P4.out.nx2 hn5)
    have hw3n : ∀ k, Fa k → k ≠ w3.heap.size := fun k hk e => by have := P3.out.lt k hk; omega
    have hl5 : Lg w5 (fun k => k = w3.heap.size) w3.heap.size ⟨per, [], 0, none⟩ := HL4.out.fr hn5.1 (fun k hk hx => by have := P3.out.lt k (P4.out.f2 k hk); omega)
    have HL5 := mkH hl5
    have g1 := P5.out.sm.fz 1
    have k1 := P5.out.sm.c1
    have hs6 := P5.out.sm.set1 w3.heap.size
    have hf6 := fr_cell P5.out.sm 1 (.pointer (some ⟨w3.heap.size, 0, none⟩))
    have HS6 := mkH hs6
    have HF6 := mkH hf6
    have HD5 := mkH hd5
    have HNX5 := mkH hn5
    clear hsw hd5 hn5 hl5 hs6 hf6 c2
    go_wp2
    go_ret
    have hSlt := P3.out.sm.slt
    have hMlt := P3.out.sm.mlt
    have hs34 := HB4.out.size
    have hl4lt := HL4.out.lt w3.heap.size rfl
    have hs45 := HNX5.out.size
    have hsn : (w5.setCell ⟨S, 1, none⟩ (.pointer (some ⟨w3.heap.size, 0, none⟩))).heap.size = w5.heap.size := by
      rw [setCell_eq_setRow w5 S 1 _ _ (0, 0) _ P5.out.sm.heap, setRow_size]
    have hf2lt := P4.out.ds.lt
    have HS7 := HS6.out
    rw [HPER.out] at HS7
    have hsp : (sp t).h = ⟨per, [], 0, none⟩ := by simp only [sp, ← HPT.out]
    have hmp : mm (sp t) = mm ts := by rw [mm_sp, HMT.out]
    refine ⟨rfl, fun k => Nw Fa w4 w5 k ∨ k = w3.heap.size, ⟨w3.heap.size, D, Mb, fun k => k = w3.heap.size, F2', ?_⟩, ?_⟩
    · rw [hsp, hmp]
      refine ⟨HS7, HL5.out.fr HF6.out (fun k hk hx => by omega), HD5.out.fr HF6.out (fun k hk hx => P5.out.s2 (by rw [← hx]; exact hk)), fun k hk => ?_, .inl P5.out.sF, .inl P5.out.mF, fun k hk => .inr hk, fun k hk => .inl (P5.out.f2 k hk), by omega, P5.out.s2, by omega, P5.out.m2, fun k hk hx => ?_⟩
      · rw [hsn]
        rcases hk with x | x
        · exact P5.out.lt k x
        · omega
      · rcases HNX5.out.2 k hx with y | y
        · have := P3.out.lt k (P4.out.f2 k y); omega
        · omega
    · have hw13 : Below w1.heap.size w1 w4 := HB2.out.trans ((HB3.out.trans (HB4.out.mono HB3.out.size)).mono HB2.out.size)
      have n1 : Nx F w w4 Fa := HN1.out.trans (Nx.ofBelow hw13)
      have n2 := n1.trans HN5.out
      refine ⟨n2.1.trans HF6.out (fun i hi => ?_), fun k hk => ?_⟩
      · subst hi
        exact n2.2 _ P5.out.sF
      · rcases hk with x | x
        · exact n2.2 k x
        · have := HN1.out.size; have := HB2.out.size; have := HB3.out.size; exact .inr (by omega)
end
end Go.Proofs.YthmedpabgblddabGreatDoor.Tl

namespace Go.Proofs.YthmedpabgblddabGreatDoor.Tn
open Go.RowKit Kt Dk Dp Da Dc De Tp Tm Pl Cs Cf Cn Cv Sq Sr Sa Sb Sc Se St Sv Rd Wr Ta Tb0 Tc Td Te Tf Tg Tt Th Ti Tj Tk Tl Go.Maps
set_option linter.unusedVariables false
set_option maxRecDepth 20000

/-- Block S is a store, apart from the blocks of G, which are as they were in w1. -/
structure Sn (w1 : World) (G : Nat → Prop) (w : World) (S : Nat) (t : Tt.T) : Prop where
  sr : ∃ F, Sr w F S t ∧ ∀ k, F k → ¬ G k
  fr : Fr (fun k => ¬ G k) w1 w
  lt : ∀ k, G k → k < w1.heap.size
  g0 : G 0
  tb : Tb w1
section
variable {w1 : World} {G : Nat → Prop} {w w' : World} {S : Nat} {t t' : Tt.T} {N : Nat}
theorem Sn.step {F F' : Nat → Prop} (hl : Sn w1 G w S t) (hF : ∀ k, F k → ¬ G k) (hg : Sr w' F' S t') (hn : Nx F w w' F') : Sn w1 G w' S t' := by
  refine ⟨⟨F', hg, fun k hk hG => ?_⟩, hl.fr.trans hn.1 (fun i hi => .inl (hF i hi)), hl.lt, hl.g0, hl.tb⟩
  rcases hn.2 k hk with x | x
  · exact hF k x hG
  · have := hl.lt k hG; have := hl.fr.size; omega
theorem Sn.below (hl : Sn w1 G w S t) (hb : Below w.heap.size w w') : Sn w1 G w' S t := by
  obtain ⟨F, h1, h2⟩ := hl.sr
  exact ⟨⟨F, h1.below hb, h2⟩, hl.fr.trans (Fr.ofBelow (F := fun _ => False) hb) (fun _ x => x.elim), hl.lt, hl.g0, hl.tb⟩
theorem Sn.tbw (hl : Sn w1 G w S t) : Tb w := tb_fr hl.tb hl.fr (fun x => x hl.g0)
theorem Sn.size (hl : Sn w1 G w S t) : w1.heap.size ≤ w.heap.size := hl.fr.size
theorem Sn.toBelow (hl : Sn w1 G w S t) {b : Nat} (hB : ∀ k, k < b → G k) : Below b w1 w :=
  ⟨hl.fr.os, hl.fr.tape, hl.fr.output, hl.fr.size, fun k hk => hl.fr.block k (hl.lt k (hB k hk)) (fun x => x (hB k hk))⟩
/-- What a call handed back is protected from now on. -/
theorem Sn.more (hl : Sn w1 G w S t) (hb : Below w.heap.size w w') : Sn w' (fun k => G k ∨ (w.heap.size ≤ k ∧ k < w'.heap.size)) w' S t := by
  obtain ⟨F, h1, h2⟩ := hl.sr
  refine ⟨⟨F, h1.below hb, fun k hk hG => ?_⟩, Fr.refl _ _, fun k hk => ?_, .inl hl.g0, (hl.below hb).tbw⟩
  · rcases hG with x | x
    · exact h2 k hk x
    · have := h1.lt k hk; omega
  · rcases hk with x | x
    · have := hl.lt k x; have := hl.fr.size; have := hb.size; omega
    · exact x.2
theorem Sn.row (hl : Sn w1 G w S t) {ao : Option Addr} {bs : List UInt8} (hr : Row w1 ao bs) (hG : ∀ b off, ao = some ⟨b, off, none⟩ → b < w1.heap.size → G b) : Row w ao bs := by
  intro h0
  obtain ⟨b, off, e, hc⟩ := hr h0
  refine ⟨b, off, e, fun i hi => ?_⟩
  have hlb := World.block_lt_of_cell? w1 _ (hc i hi)
  rw [← hc i hi]
  exact World.cell?_of_block (w := w1) (hl.fr.heap (k := b) hlb (fun x => x (hG b off e hlb)))
theorem promise_sn (hl : Sn w1 G w S t) (hi : TI N t) (hN : N ≤ 200) (b : Int) :
    Calls Tryz.prog 15 #[.pointer (some ⟨S, 0, none⟩), .int .i64 b] w fun e w' => e = .returned (.int .i64 (pE t b)) ∧ Sn w1 G w' S (pT t b) := by
  obtain ⟨F, h1, h2⟩ := hl.sr
  refine (promise_any h1 hi hN hl.tbw b).mono ?_
  rintro e w' ⟨rfl, F', h3, h4⟩
  exact ⟨rfl, hl.step h2 h3 h4⟩
theorem accept_sn (hl : Sn w1 G w S t) (hi : TI N t) (hN : N ≤ 200) (s : Nat) (hs : s ≤ 60) (b : Int) (va : Option Addr) (vc : Nat) (v : List UInt8) (hv : Row w va v) (hvl : v.length ≤ 300) :
    Calls Tryz.prog 9 #[.pointer (some ⟨S, 0, none⟩), .int .i64 (s : Int), .int .i64 b, .slice va v.length vc] w fun e w' => e = .returned (.int .i64 (aE t s b)) ∧ Sn w1 G w' S (aT t s b v) := by
  obtain ⟨F, h1, h2⟩ := hl.sr
  refine (accept_any h1 hi hN hl.tbw s hs b va vc v hv hvl).mono ?_
  rintro e w' ⟨rfl, F', h3, h4⟩
  exact ⟨rfl, hl.step h2 h3 h4⟩
theorem forget_sn (hl : Sn w1 G w S t) (hi : TI N t) (hN : N ≤ 200) (n : Nat) (hn : n ≤ 1099511627776) :
    Calls Tryz.prog 8 #[.pointer (some ⟨S, 0, none⟩), .int .i64 (n : Int)] w fun e w' => e = .returned (.int .i64 (fE t)) ∧ Sn w1 G w' S (fT t n) := by
  obtain ⟨F, h1, h2⟩ := hl.sr
  refine (Ti.forget_any h1 hi hN hl.tbw n hn).mono ?_
  rintro e w' ⟨rfl, F', h3, h4⟩
  exact ⟨rfl, hl.step h2 h3 h4⟩
theorem sync_sn (hl : Sn w1 G w S t) (hi : TI N t) :
    Calls Tryz.prog 10 #[.pointer (some ⟨S, 0, none⟩)] w fun e w' => e = .returned (.int .i64 (yE t)) ∧ Sn w1 G w' S (sy t) := by
  obtain ⟨F, h1, h2⟩ := hl.sr
  refine (Th.sync_any h1 hi).mono ?_
  rintro e w' ⟨rfl, F', h3, h4⟩
  exact ⟨rfl, hl.step h2 h3 h4⟩
theorem snapshot_sn (hl : Sn w1 G w S t) (hi : TI N t) :
    Calls Tryz.prog 16 #[.pointer (some ⟨S, 0, none⟩)] w fun e w' => e = .returned (.int .i64 (yE t)) ∧ Sn w1 G w' S (nT t) := by
  obtain ⟨F, h1, h2⟩ := hl.sr
  refine (snapshot_any h1 hi hl.tbw (fun x => h2 0 x hl.g0)).mono ?_
  rintro e w' ⟨rfl, F', h3, h4⟩
  exact ⟨rfl, hl.step h2 h3 h4⟩
theorem crash_sn (hl : Sn w1 G w S t) (hi : TI N t) (k f : Int) (hf : f ≤ 9223372036854775807) :
    Calls Tryz.prog 11 #[.pointer (some ⟨S, 0, none⟩), .int .i64 k, .int .i64 f] w fun e w' => e = .returned (.int .i64 (cE t k)) ∧ Sn w1 G w' S (cr t k f) := by
  obtain ⟨F, h1, h2⟩ := hl.sr
  refine (Ti.crash_any h1 hi k f hf).mono ?_
  rintro e w' ⟨rfl, F', h3, h4⟩
  exact ⟨rfl, hl.step h2 h3 h4⟩
theorem restart_sn (hl : Sn w1 G w S t) (hi : TI N t) (hN : N ≤ 1000000) :
    Calls Tryz.prog 12 #[.pointer (some ⟨S, 0, none⟩)] w fun e w' => e = .returned (.int .i64 (rE t)) ∧ Sn w1 G w' S (Tt.rs t) := by
  obtain ⟨F, h1, h2⟩ := hl.sr
  refine (Tk.restart_any h1 hi hN hl.tbw (fun x => h2 0 x hl.g0)).mono ?_
  rintro e w' ⟨rfl, F', h3, h4⟩
  exact ⟨rfl, hl.step h2 h3 h4⟩
theorem promised_sn (hl : Sn w1 G w S t) : Calls Tryz.prog 7 #[.pointer (some ⟨S, 0, none⟩)] w fun e w' => e = .returned (.int .i64 ((mm t).pr : Int)) ∧ w' = w := by obtain ⟨F, h1, h2⟩ := hl.sr; exact promised_any h1
theorem base_sn (hl : Sn w1 G w S t) : Calls Tryz.prog 6 #[.pointer (some ⟨S, 0, none⟩)] w fun e w' => e = .returned (.int .i64 ((mm t).ba : Int)) ∧ w' = w := by obtain ⟨F, h1, h2⟩ := hl.sr; exact Th.base_any h1
theorem down_sn (hl : Sn w1 G w S t) (hi : TI N t) : Calls Tryz.prog 17 #[.pointer (some ⟨S, 0, none⟩)] w fun e w' => e = .returned (.bool (dn t)) ∧ w' = w := by obtain ⟨F, h1, h2⟩ := hl.sr; exact Th.down_any h1 hi
theorem slots_sn (hl : Sn w1 G w S t) (hi : TI N t) : Calls Tryz.prog 18 #[.pointer (some ⟨S, 0, none⟩)] w fun e w' => e = .returned (.int .i64 (tops (mm t).sl : Nat)) ∧ Below w.heap.size w w' := by
  obtain ⟨F, ⟨B, D, Mb, F1, F2, p⟩, h2⟩ := hl.sr
  exact slots_any p.sm (fun q hq => by have := hi.ok.at' q hq; omega)
theorem get_sn (hl : Sn w1 G w S t) (hi : TI N t) (k : Nat) (hk : k ≤ 4611686018427387904) : Calls Tryz.prog 19 #[.pointer (some ⟨S, 0, none⟩), .int .i64 (k : Int)] w fun e w' => Gt w w' (atS (mm t).sl k) e ∧ Below w.heap.size w w' := by
  obtain ⟨F, ⟨B, D, Mb, F1, F2, p⟩, h2⟩ := hl.sr
  exact get_any p.sm k hk (fun v hv => by have := hi.ok.at' _ (atS_mem hv); simp only at this; omega)
end
theorem new_sn (w : World) (hT : Tb w) (per : Nat) (h1 : 1 ≤ per) (h2 : per ≤ 1024) : Calls Tryz.prog 14 #[.int .i64 (per : Int)] w fun e w' => ∃ S, e = .returned (.tuple #[.pointer (some ⟨S, 0, none⟩), .int .i64 0]) ∧ Sn w (fun k => k < w.heap.size) w' S (tn per) := by
  refine (Tj.new_any w per h1 h2).mono ?_
  rintro e w' ⟨S, rfl, F, h3, h4, h5⟩
  exact ⟨S, rfl, ⟨F, h3, fun k hk x => by have := h4 k hk; omega⟩, Fr.ofBelow h5, fun k hk => hk, hT.size, hT⟩
end Go.Proofs.YthmedpabgblddabGreatDoor.Tn
