/-
  The contracts of write, where a segment is begun, and of Append.
-/
import Derived.Test.YthmedpabgblddabGreatDoorSgC
namespace Go.Proofs.YthmedpabgblddabGreatDoor.Se
open Go.RowKit Kt Cs Cf Cv Dk Dp Da Db Dc Dd De Sq Sr Sa Sb Sc Pl
set_option linter.unusedVariables false
set_option maxRecDepth 20000

theorem fr_grown {w w' : World} {row : Option Nat} (h : w.grownBy w' row) : Fr (fun k => row = some k) w w' := ⟨h.os, h.tape, h.output, h.size, fun k hk hn => h.block k hk (fun e => hn e.symm)⟩
theorem own_below {w w' : World} {base e size n : Nat} {v : Value} {xs : List Value} (h : w.ownsRow base e size v n xs) (hb : Below w.heap.size w w') : w'.ownsRow base e size v n xs := by
  refine ⟨h.1, ?_⟩
  rcases h.2 with h1 | ⟨g, cap, cur, rfl, e2, e3, e4⟩
  · exact .inl h1
  · exact .inr ⟨g, cap, cur, rfl, e2, (hb.block g (block_lt e3)).trans e3, e4⟩
theorem own_blk {w : World} {base e size n : Nat} {v : Value} {xs : List Value} (h : w.ownsRow base e size v n xs) {g : Nat} (hg : v.ownBlock = some g) : g < w.heap.size ∧ base ≤ g := by
  rcases h.2 with ⟨rfl, -⟩ | ⟨g', cap, cur, rfl, e2, e3, e4⟩
  · simp [Value.ownBlock] at hg
  · simp only [Value.ownBlock, Option.some.injEq] at hg
    subst hg
    exact ⟨block_lt e3, e2⟩
theorem Pt_snoc (Ps : List Nat) (D : Nat) : Pt (Ps ++ [D]) = Pt Ps ++ [.pointer (some ⟨D, 0, none⟩)] := by simp [Pt]

section
variable {w : World} {F : Nat → Prop} {B : Nat} {h : H}
/-- Full, or without a segment. -/
theorem full_all {N : Nat} (hi : Inv N h) (hf : isFull h = true) : (all h.segs).length = h.segs.length * h.per := by
  by_cases h0 : h.segs = []
  · rw [h0]; simp [all]
  · obtain ⟨i, s, h1⟩ := snoc_of h0
    have hch := hi.ch
    have h2 : h.per ≤ s.recs.length := by simpa [isFull, h1] using hf
    rw [h1] at hch
    have h3 := hch.last
    have h4 := all_len hch
    rw [h1, h4, List.length_append, List.length_singleton, Nat.add_mul]; omega

set_option maxHeartbeats 2000000 in
theorem write_full {N : Nat} (hl : Lg w F B h) (hi : Inv N h) (hN : N ≤ 1000000) (hd : h.dn = none) (hf : isFull h = true) (hn : h.segs.length = 256) (x : Value) :
    Calls Tryz.prog 68 #[.pointer (some ⟨B, 0, none⟩), x] w fun e w' => e = .returned (.int .i64 7) ∧ Below w.heap.size w w' := by
  obtain ⟨v, FD, Ps, h1, h2⟩ := lg_up hl hd
  obtain ⟨va, vc, rfl⟩ := own_form h1.row.1
  have c0 := h1.c0
  have c2 := h1.c2
  have c3 := h1.c3
  have c4 := h1.c4
  have hpl : Ps.length = h.segs.length := by have := h2.1; simpa using this
  have hall := full_all hi hf
  have htop := top_all0 hi.ch
  have hper := hi.p2
  have hto := hi.top
  obtain ⟨K, hK⟩ : ∃ K, (all h.segs).length = K := ⟨_, rfl⟩
  rw [hn] at hall hpl
  rw [hpl] at c2
  obtain ⟨T, hT⟩ : ∃ T, top h.segs = T := ⟨_, rfl⟩
  obtain ⟨Bs, hBs⟩ : ∃ Bs, bas h.segs = Bs := ⟨_, rfl⟩
  have hTb : (T : Int) - (Bs : Int) = (K : Int) := by omega
  have hmul : (256 : Int) * (h.per : Int) = (K : Int) := by omega
  have hTN : T ≤ 1000000 := by omega
  have hKb : K ≤ 1000000 := by omega
  have hpb : h.per ≤ 1024 := hper
  rw [hT] at c4
  rw [hBs] at c3
  clear h1 h2 hl hpl hall htop hper hto hK hT hBs hf hn hi hd
  generalize h.per = per at *
  go_enter Tryz.func68, Tryz.ntmps68
  go_wp2_with fail
  go_quiet (fail)
  go_wp2
  go_ret
  exact ⟨rfl, below_drewN (Below.refl _ _) _⟩

set_option maxHeartbeats 2000000 in
theorem write_new {N : Nat} (hl : Lg w F B h) (hi : Inv N h) (hN : N ≤ 1000000) (hT : Tb w) (hd : h.dn = none) (hf : isFull h = true) (hn : h.segs.length < 256) (ao : Option Addr) (cap : Nat) (r : List UInt8) (hr : Row w ao (Cp.frame r)) (hrl : r.length ≤ 400) :
    Calls Tryz.prog 68 #[.pointer (some ⟨B, 0, none⟩), .slice ao (Cp.frame r).length cap] w fun e w' => e = .returned (.int .i64 0) ∧
      ∃ F' v FD Ps, Lr w' F' FD B h.per false v (bas h.segs) (top h.segs) h.safe Ps ∧ Sk w' FD Ps ((h.segs ++ [(⟨top h.segs, [r], none⟩ : Sg)]).map (dst none)) ∧ Nx F w w' F' := by
  obtain ⟨v, FD, Ps, h1, h2⟩ := lg_up hl hd
  obtain ⟨va, vc, rfl⟩ := own_form h1.row.1
  have c0 := h1.c0
  have c2 := h1.c2
  have c3 := h1.c3
  have c4 := h1.c4
  have hpl : Ps.length = h.segs.length := by have := h2.1; simpa using this
  have hall := full_all hi hf
  have htop := top_all0 hi.ch
  have hper := hi.p2
  have hto := hi.top
  obtain ⟨K, hK⟩ : ∃ K, (all h.segs).length = K := ⟨_, rfl⟩
  rw [← hpl] at hall hn
  obtain ⟨T, hTT⟩ : ∃ T, top h.segs = T := ⟨_, rfl⟩
  obtain ⟨Bs, hBs⟩ : ∃ Bs, bas h.segs = Bs := ⟨_, rfl⟩
  have hTb : (T : Int) - (Bs : Int) = (K : Int) := by omega
  have hmul : (Ps.length : Int) * (h.per : Int) = (K : Int) := by rw [← hK, hall]; exact (Int.natCast_mul _ _).symm
  have hTN : T ≤ 1000000 := by omega
  have hKb : K ≤ 1000000 := by omega
  have hpb : h.per ≤ 1024 := hper
  have hfl : (Cp.frame r).length = 12 + r.length := Sp.frame_pos r
  have h9 := enc_len9 (n := T) (by omega)
  obtain ⟨ea, eb⟩ := dst_new T (by omega) r (by omega)
  rw [hTT] at c4 h1
  rw [hBs] at c3 h1
  rw [hTT, hBs]
  obtain ⟨fl, hfl2⟩ : ∃ fl, (Cp.frame r).length = fl := ⟨_, rfl⟩
  obtain ⟨n, hn2⟩ : ∃ n, Ps.length = n := ⟨_, rfl⟩
  rw [hn2] at c2 hmul hn
  have t1 : ((n : Int) == (256 : Int)) = false := by simp; omega
  have HL := mkH h1
  have HS := mkH h2
  have HT := mkH hT
  have HR := mkH hr
  have H9 := mkH h9
  have HEA := mkH ea
  have HEB := mkH eb
  have HFL := mkH hfl2
  have HN2 := mkH hn2
  have hflb : fl ≤ 1000 := by omega
  rw [hfl2]
  clear h1 h2 hl hpl hall htop hper hto hK hTT hBs hf hi hd hT hr h9 ea eb hfl hfl2 hn2
  generalize h.per = per at *
  generalize h.safe = sf at *
  generalize h.segs = sg at *
  go_enter Tryz.func68, Tryz.ntmps68
  go_wp2_with fail
  go_quiet (fail)
  go_wp2_with fail
  have hb1 : Below w.heap.size w (w.drewN nq) := below_drewN (Below.refl _ _) _
  refine (headFrame_ok _ T (HT.out.below hb1 HT.out.size) hTN).mono ?_
  rintro e w2 ⟨v2, rfl, hown2, hb2⟩
  have hb2 : Below w.heap.size w w2 := hb1.trans hb2
  have hown2 : w2.ownsRow w.heap.size 5 1 v2 (12 + (enc T).length) (U (Cp.frame (enc T))) := hown2
  obtain ⟨a2, k2, rfl⟩ := own_form hown2
  have HO2 := mkH hown2
  have HB2 := mkH hb2
  clear hown2 hb2 hb1 c0 c2 c3 c4
  go_wp2_with fail
  refine (Da.new_any w2).mono ?_
  rintro e w3 ⟨rfl, hd3, hb3⟩
  have HB3 := mkH (HB2.out.trans (hb3.mono HB2.out.size))
  have HO3 := mkH (own_below HO2.out hb3)
  have HD3 := mkH hd3
  obtain ⟨D, hD⟩ : ∃ D, w2.heap.size = D := ⟨_, rfl⟩
  have HDl : Hid (w.heap.size ≤ D) := by unfold Hid; rw [← hD]; exact HB2.out.size
  have HOB := mkH (fun g hg => (own_blk HO2.out (g := g) hg).1)
  rw [hD] at HD3 HOB
  rw [hD]
  clear hd3 hb3 HO2 hD
  go_wp2_with (at_builtin; refine (wpList_append_own_src_at _ rfl (.tmp 62) (.tmp 63) 30 30 rfl w.heap.size 5 (.int .u8 0) 1 1 Tryz.underlying30 info5 rfl (by decide) _ _ _ rfl HO3.out _ fl (U (Cp.frame r)) rfl ?hsrc ?h63 ?hby ?hbs ?_))
  case hsrc => have := Row.src (P := Tryz.prog) Tryz.underlying30 (HR.out.below HB3.out) cap; rw [HFL.out] at this; exact this
  case h63 => have := H9.out; unfold maxLen; omega
  case hby => have := H9.out; omega
  case hbs => exact HB3.out.size
  intro v4 w4 hown4 hgrow4 hblk4
  rw [← U_append] at hown4
  obtain ⟨X, hX⟩ : ∃ X, Cp.frame (enc T) ++ Cp.frame r = X := ⟨_, rfl⟩
  rw [hX] at hown4 HEA HEB
  obtain ⟨a4, c4, rfl, hx4, -, hr4⟩ := own_row hown4
  have hb4 : Below w.heap.size w w4 := below_own HO3.out hgrow4 HB3.out HB3.out.size
  have hd4 : Ds w4 (fun k => k = D) D Dp.new := HD3.out.fr (fr_grown hgrow4) (fun k hk hx => by have := HOB.out k hx; omega)
  have ha := Dc.append_any hd4 a4 c4 X hr4 (by have := H9.out; omega)
  rw [HEA.out, HEB.out] at ha
  have HA := mkH ha
  have HB4 := mkH hb4
  clear hown4 hgrow4 hblk4 hr4 hb4 hd4 ha hX hx4 HD3 HO3 HOB HEA HEB
  generalize X.length = xl at *
  go_wp2_with fail
  refine HA.out.mono ?_
  rintro e w5 ⟨rfl, G', hd5, hn5⟩
  have hb5 : Below w.heap.size w w5 := HB4.out.trans (hn5.1.below (fun k hk => by have := HDl.out; omega) HB4.out.size)
  have hG5 : ∀ k, G' k → w.heap.size ≤ k := fun k hk => by
    rcases hn5.2 k hk with x | x
    · have := HDl.out; omega
    · exact Nat.le_trans HB4.out.size x
  have hl5 := HL.out.below hb5
  have hs5 := HS.out.below hb5
  have hsn5 := hs5.snoc hd5 (fun k hk hx => by have := hG5 k hk; have := HL.out.fdlt k hx; omega)
  have c2 := hl5.c2
  rw [HN2.out] at c2
  have HL5 := mkH hl5
  have HSN := mkH hsn5
  have HD5 := mkH hd5
  have HB5 := mkH hb5
  have HG5 := mkH hG5
  clear hl5 hs5 hsn5 hd5 hn5 hb5 hG5 HA HB4 HB3 HB2
  have HRW := mkH (HL5.out.row.1)
  rw [HN2.out] at HRW
  go_wp2_with (at_builtin; refine (wpList_append_own_src_at _ rfl (.tmp 73) (.tmp 75) 69 69 rfl 0 45 (.pointer none) 1 8 Tryz.underlying69 infoD rfl (by decide) _ _ _ rfl (own_below HRW.out ((Below.refl _ _).alloc (Nat.le_refl _) _)) _ 1 [.pointer (some ⟨D, 0, none⟩)] rfl (src_val Tryz.underlying69 _ _ rfl) ?h63 ?hby ?hbs ?_))
  case h63 => unfold maxLen; omega
  case hby => omega
  case hbs => omega
  intro v7 w7 hown7 hgrow7 hblk7
  obtain ⟨a7, c7, rfl⟩ := own_form hown7
  have hfr : Fr (fun k => (Value.slice va n vc).ownBlock = some k) w5 w7 := ((Fr.refl _ _).alloc _).trans (fr_grown hgrow7) (fun i hi => .inl hi)
  have hs7 : w5.heap.size + 1 ≤ w7.heap.size := by have := hgrow7.size; simpa using this
  have hrow2 : ∀ g, (Value.slice va n vc).ownBlock = some g → F g ∧ g ≠ B ∧ ¬ FD g := by have := HL5.out.row.2; rw [HN2.out] at this; exact this
  have hheap : w7.heap[B]? = some (.cells #[.int .i64 (per : Int), .bool false, .slice va n vc, .int .i64 (Bs : Int), .int .i64 (T : Int), .int .i64 (sf : Int)] 71 (0, 0)) := by
    rw [hfr.heap HL5.out.blt (fun x => (hrow2 B x).2.1 rfl)]
    have := HL5.out.heap
    rw [HN2.out] at this
    exact this
  have d2 : w7.cell? ⟨B, 2, none⟩ = some (.slice va n vc) := by rw [cell_of_row _ _ _ _ _ _ hheap]; rfl
  have f2 : w7.frozen? ⟨B, 2, none⟩ = false := frozen_of_row w7 B 2 _ _ hheap
  have hrp : Rp w7 (Nw F w w7) (fun k => FD k ∨ G' k) B (.slice a7 (n + 1) c7) (Ps ++ [D]) := by
    refine ⟨by rw [Pt_snoc, List.length_append, HN2.out]; exact hown7, fun g hg => ?_⟩
    have hl7 := (own_blk hown7 hg).1
    rcases hblk7 with x | x
    · rw [hg] at x
      obtain ⟨q1, q2, q3⟩ := hrow2 g x.symm
      refine ⟨.inl q1, q2, fun y => ?_⟩
      rcases y with y | y
      · exact q3 y
      · have := HG5.out g y; have := HL.out.lt g q1; omega
    · rw [hg] at x
      have hx : g = w5.heap.size + 1 := by simpa using x
      have hw := HB5.out.size
      have hbl := HL.out.blt
      refine ⟨.inr ⟨by omega, hl7⟩, by omega, fun y => ?_⟩
      rcases y with y | y
      · have := HL.out.fdlt g y; omega
      · have := HD5.out.lt g y; omega
  have hsk : Sk w7 (fun k => FD k ∨ G' k) (Ps ++ [D]) ((sg ++ [(⟨T, [r], none⟩ : Sg)]).map (dst none)) := by
    rw [List.map_append]
    refine HSN.out.fr hfr (fun k hk hx => ?_)
    obtain ⟨q1, q2, q3⟩ := hrow2 k hx
    rcases hk with y | y
    · exact q3 y
    · have := HG5.out k y; have := HL.out.lt k q1; omega
  have hnx : Fr F w w7 := (Fr.ofBelow HB5.out |> fun h => (⟨h.os, h.tape, h.output, h.size, h.block⟩ : Fr F w w5)).trans hfr (fun i hi => .inl (hrow2 i hi).1)
  have HRP := mkH hrp
  have HSK := mkH hsk
  have HNX := mkH hnx
  have HHP := mkH hheap
  have HD5l := mkH HD5.out.lt
  have HSZ := mkH hs7
  clear hrp hsk hnx hheap hrow2 hfr hown7 hgrow7 hblk7 hs7
  go_wp2
  go_ret
  refine ⟨rfl, Nw F w w7, .slice a7 (n + 1) c7, (fun k => FD k ∨ G' k), Ps ++ [D], lr_mk (Nw.lt HL.out.lt HNX.out.size) (.inl HL.out.own) (fun k hk => ?_) HHP.out HRP.out, ?_, ?_⟩
  · rcases hk with y | y
    · exact ⟨.inl (HL.out.fd k y).1, (HL.out.fd k y).2⟩
    · have q := HG5.out k y
      have := HL.out.blt
      have := HD5l.out k y
      have := HSZ.out
      exact ⟨.inr ⟨q, by omega⟩, by omega⟩
  · refine HSK.out.fr (lr_fr2 HHP.out _) (fun k hk hx => ?_)
    subst hx
    rcases hk with y | y
    · exact (HL.out.fd _ y).2 rfl
    · have := HG5.out _ y; have := HL.out.blt; omega
  · exact ⟨HNX.out.trans (lr_fr2 HHP.out _) (fun i hi => by subst hi; exact .inl HL.out.own), (Nw.nx HNX.out).2⟩

def appNum (h : H) : Int := if appErr h = 0 then (top h.segs : Int) else 0
theorem appErr_0 {N : Nat} (hi : Inv N h) (hf : ¬ (isFull h = true ∧ h.segs.length = 256)) : appErr h = 0 := by unfold appErr; rw [if_neg hf]
theorem top_app {N : Nat} (hi : Inv N h) (r : List UInt8) (hf : ¬ (isFull h = true ∧ h.segs.length = 256)) : top (app h r).segs = top h.segs + 1 ∧ bas (app h r).segs = bas h.segs := by
  by_cases h0 : h.segs = []
  · rw [app_nil r h0, h0]; exact ⟨rfl, rfl⟩
  · obtain ⟨i, s, h1⟩ := snoc_of h0
    rw [app_snoc r h1]
    have hif : isFull h = decide (h.per ≤ s.recs.length) := by simp [isFull, h1]
    split
    · rename_i h2
      rw [if_neg (fun h3 => hf ⟨by rw [hif]; simpa using h2, h3⟩)]
      refine ⟨by show top (h.segs ++ [(⟨top h.segs, [r], none⟩ : Sg)]) = _; rw [top_snoc]; rfl, ?_⟩
      show bas (h.segs ++ [_]) = _
      rw [h1]
      cases i <;> rfl
    · refine ⟨by show top (i ++ [(⟨s.first, s.recs ++ [r], s.kept⟩ : Sg)]) = _; rw [top_snoc, h1, top_snoc]; simp; omega, ?_⟩
      show bas (i ++ [_]) = _
      rw [h1]
      cases i <;> rfl

/-- What write does, all ways in one. -/
theorem write_any {N : Nat} (hl : Lg w F B h) (hi : Inv N h) (hN : N ≤ 1000000) (hT : Tb w) (hd : h.dn = none) (ao : Option Addr) (cap : Nat) (r : List UInt8) (hr : Row w ao (Cp.frame r)) (hrl : r.length ≤ 400) :
    Calls Tryz.prog 68 #[.pointer (some ⟨B, 0, none⟩), .slice ao (Cp.frame r).length cap] w fun e w' => e = .returned (.int .i64 (appErr h)) ∧
      ((appErr h = 7 ∧ Below w.heap.size w w' ∧ app h r = h) ∨ (appErr h = 0 ∧ top (app h r).segs = top h.segs + 1 ∧ bas (app h r).segs = bas h.segs ∧ ∃ F' v FD Ps, Lr w' F' FD B h.per false v (bas h.segs) (top h.segs) h.safe Ps ∧ Sk w' FD Ps ((app h r).segs.map (dst none)) ∧ Nx F w w' F')) := by
  by_cases hf : isFull h = true ∧ h.segs.length = 256
  · have he : appErr h = 7 := by unfold appErr; rw [if_pos hf]
    refine (write_full hl hi hN hd hf.1 hf.2 _).mono ?_
    rintro e w' ⟨rfl, hb⟩
    refine ⟨by rw [he], .inl ⟨he, hb, ?_⟩⟩
    have h0 : h.segs ≠ [] := by intro e; rw [e] at hf; simp at hf
    obtain ⟨i, s, h1⟩ := snoc_of h0
    rw [app_snoc r h1, if_pos (by simpa [isFull, h1] using hf.1), if_pos hf.2]
  · have he := appErr_0 hi hf
    obtain ⟨ht, hbs⟩ := top_app hi r hf
    by_cases hf2 : isFull h = true
    · have hn := hi.n
      have hn2 : h.segs.length < 256 := by
        rcases Nat.lt_or_ge h.segs.length 256 with x | x
        · exact x
        · exact (hf ⟨hf2, by omega⟩).elim
      refine (write_new hl hi hN hT hd hf2 hn2 ao cap r hr hrl).mono ?_
      rintro e w' ⟨rfl, hx⟩
      refine ⟨by rw [he], .inr ⟨he, ht, hbs, ?_⟩⟩
      have hseg : (app h r).segs = h.segs ++ [(⟨top h.segs, [r], none⟩ : Sg)] := by
        by_cases h0 : h.segs = []
        · rw [app_nil r h0, h0]; rfl
        · obtain ⟨i, s, h1⟩ := snoc_of h0
          rw [app_snoc r h1, if_pos (by simpa [isFull, h1] using hf2), if_neg (by omega)]
      rw [hseg]
      exact hx
    · have h0 : h.segs ≠ [] := by intro e; exact hf2 (by simp [isFull, e])
      obtain ⟨i, s, h1⟩ := snoc_of h0
      have h2 : ¬ h.per ≤ s.recs.length := fun x => hf2 (by simpa [isFull, h1] using x)
      refine (write_old hl hi hN hd i s h1 (by omega) ao cap r hr hrl).mono ?_
      rintro e w' ⟨rfl, hx⟩
      refine ⟨by rw [he], .inr ⟨he, ht, hbs, ?_⟩⟩
      rw [app_snoc r h1, if_neg h2]
      exact hx

theorem app_same (r : List UInt8) : (app h r).per = h.per ∧ (app h r).safe = h.safe ∧ (app h r).dn = h.dn := by
  unfold app
  split
  · exact ⟨rfl, rfl, rfl⟩
  · split
    · split <;> exact ⟨rfl, rfl, rfl⟩
    · exact ⟨rfl, rfl, rfl⟩

theorem ret2 {a b c d : Int} (h1 : c = a) (h2 : d = b) : Ending.returned (Value.tuple #[.int .i64 a, .int .i64 b]) = .returned (.tuple #[.int .i64 c, .int .i64 d]) := by rw [h1, h2]
theorem append_down {p : Int × Int} (hl : Lg w F B h) (hp : 1 ≤ h.per) (hd : h.dn = some p) (x : Value) :
    Calls Tryz.prog 40 #[.pointer (some ⟨B, 0, none⟩), x] w fun e w' => e = .returned (.tuple #[.int .i64 0, .int .i64 10]) ∧ w' = w := by
  obtain ⟨c0, c1⟩ := lg_cells hl
  rw [hd] at c1
  clear hl hd
  go_enter Tryz.func40, Tryz.ntmps40
  go_wp2_with fail
  refine (Sa.trouble_any w B _ true hp c0 c1).mono ?_
  rintro e w1 ⟨rfl, hw⟩
  have hw2 := hw.symm
  subst hw2
  clear hw
  go_wp2
  go_ret2
  exact ⟨rfl, rfl⟩

set_option maxHeartbeats 1000000 in
theorem append_up {N : Nat} (hl : Lg w F B h) (hi : Inv N h) (hN : N ≤ 1000000) (hT : Tb w) (hd : h.dn = none) (ao : Option Addr) (cap : Nat) (r : List UInt8) (hr : Row w ao r) (hrl : r.length ≤ 400) :
    Calls Tryz.prog 40 #[.pointer (some ⟨B, 0, none⟩), .slice ao r.length cap] w fun e w' => e = .returned (.tuple #[.int .i64 (appNum h), .int .i64 (appErr h)]) ∧ ∃ F', Lg w' F' B (app h r) ∧ Nx F w w' F' := by
  obtain ⟨c0, c1⟩ := lg_cells hl
  rw [hd] at c1
  have hp := hi.p1
  have HL := mkH hl
  have HI := mkH hi
  have HT := mkH hT
  have HD := mkH hd
  have HR := mkH hr
  have hto := hi.top
  have htop : top h.segs ≤ 1000000 := by omega
  clear hl hi hT hd hr hto
  go_enter Tryz.func40, Tryz.ntmps40
  go_wp2_with fail
  refine (Sa.trouble_any w B _ false hp c0 c1).mono ?_
  rintro e w1 ⟨rfl, hw⟩
  have hw2 := hw.symm
  subst hw2
  clear hw
  go_wp2_with fail
  refine (frame_ok w ao cap r HT.out HR.out (by omega)).mono ?_
  rintro e w1 ⟨v1, rfl, hown1, hb1⟩
  obtain ⟨a1, k1, rfl, -, -, hr1⟩ := own_row hown1
  have HB1 := mkH hb1
  have ha := write_any (HL.out.below hb1) HI.out hN (HT.out.below hb1 HT.out.size) HD.out a1 k1 r hr1 hrl
  have HA := mkH ha
  clear hown1 hb1 hr1 ha
  generalize (Cp.frame r).length = fl at *
  go_wp2_with fail
  refine HA.out.mono ?_
  clear HA
  rintro e w2 ⟨rfl, ⟨he, hb2, hsame⟩ | ⟨he, ht, hbs, F', v, FD, Ps, hl2, hs2, hn2⟩⟩
  · have HQ := mkH (show appNum h = 0 by unfold appNum; rw [if_neg (by rw [he]; decide)])
    have HE := mkH he
    generalize appErr h = EE at he ⊢
    subst he
    have HX := mkH (show Lg w2 F B (app h r) by rw [hsame]; exact (HL.out.below HB1.out).below hb2)
    have HB2 := mkH (HB1.out.trans (hb2.mono HB1.out.size))
    clear hb2 hsame
    go_wp2
    go_ret2
    exact ⟨ret2 HQ.out HE.out, F, HX.out, Nx.ofBelow HB2.out⟩
  · have HQ := mkH (show appNum h = (top h.segs : Int) by unfold appNum; rw [if_pos he])
    have HE := mkH he
    generalize appErr h = EE at he ⊢
    subst he
    have c4 := hl2.c4
    have f4 := hl2.fz 4
    have HL2 := mkH hl2
    have HS2 := mkH hs2
    have HN2 := mkH ((Nx.ofBelow HB1.out).trans hn2)
    have HTT := mkH ht
    have HBS := mkH hbs
    clear hl2 hs2 hn2 ht hbs
    generalize top h.segs = T at *
    go_wp2
    go_ret2
    obtain ⟨q1, q2, q3⟩ := app_same (h := h) r
    refine ⟨ret2 HQ.out HE.out, F', lg_ofUp (by rw [q3]; exact HD.out) (v := v) (FD := FD) (Ps := Ps) ?_ (Sk.lr HS2.out HL2.out 4 _), HN2.out.trans (HL2.out.nx 4 _)⟩
    rw [q1, q2, HTT.out, HBS.out]
    have := HL2.out.setNext (T + 1)
    rw [Int.natCast_add] at this
    exact this
end
end Go.Proofs.YthmedpabgblddabGreatDoor.Se
