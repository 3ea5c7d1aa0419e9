/-
  The contracts of headFrame, readHead and write.
-/
import Derived.Test.YthmedpabgblddabGreatDoorSgB
import Derived.Test.YthmedpabgblddabGreatDoorWrites
import Derived.Test.YthmedpabgblddabGreatDoorReads
namespace Go.Proofs.YthmedpabgblddabGreatDoor.Sc
open Go.RowKit Kt Cs Cf Dk Dp Da Db Dc Dd De Sq Sr Sa Sb Pl
set_option linter.unusedVariables false
set_option maxRecDepth 20000

theorem wrap_fit (n : Nat) (h : n ≤ 4194304) : IntKind.i64.wrap (n : Int) = (n : Int) := by
  simp [IntKind.wrap, IntKind.bits, IntKind.signed]
  omega
theorem infoD : (Tryz.prog.info? 45).map (fun i => (i.zero, i.size, i.bytes)) = some (some (.pointer none), 1, 8) := by kernel_rfl
theorem tb_fr {Q : Nat → Prop} {w w' : World} (h : Tb w) (hf : Fr Q w w') (hq : ¬ Q 0) : Tb w' := fun i hi => by
  rw [← h i hi]
  exact World.cell?_of_block (w := w) (hf.heap (k := 0) h.size hq)

set_option maxHeartbeats 1000000 in
theorem headFrame_ok (w : World) (n : Nat) (hT : Tb w) (hn : n ≤ 1000000) :
    Calls Tryz.prog 83 #[.int .i64 (n : Int)] w fun e w' => ∃ v, e = .returned (.tuple #[v, .int .i64 0]) ∧ w'.ownsRow w.heap.size 5 1 v (12 + (enc n).length) (U (Cp.frame (enc n))) ∧ Below w.heap.size w w' := by
  have HT := mkH hT
  have h9 := enc_len9 (n := n) (by omega)
  go_enter Tryz.func83, Tryz.ntmps83
  go_wp2_with fail
  refine (Wr.num_ok w none 0 n [] (Row.nil _ _) (by simp) (by omega)).mono ?_
  rintro e w1 ⟨v1, rfl, hown1, hb1⟩
  rw [List.nil_append, List.length_nil, Nat.zero_add] at hown1
  obtain ⟨a1, c1, rfl, -, hc1, hr1⟩ := own_row hown1
  have HR := mkH hr1
  have HB := mkH hb1
  have H9 := mkH h9
  clear hown1 hr1 hb1 hc1 h9
  go_wp2_with fail
  refine (frame_ok w1 a1 c1 (enc n) (HT.out.below HB.out HT.out.size) HR.out (by have := H9.out; omega)).mono ?_
  rintro e w2 ⟨v2, rfl, hown2, hb2⟩
  have HO := mkH hown2
  have HB2 := mkH hb2
  clear hown2 hb2
  go_wp2
  go_ret2
  refine ⟨v2, rfl, ?_, HB.out.trans (HB2.out.mono HB.out.size)⟩
  refine ⟨HO.out.1, ?_⟩
  rcases HO.out.2 with x | ⟨g, cap, cur, e1, e2, e3⟩
  · exact .inl x
  · exact .inr ⟨g, cap, cur, e1, Nat.le_trans HB.out.size e2, e3⟩

theorem readHead_ok (w : World) (ao : Option Addr) (cap n : Nat) (hn : n ≤ 1000000) (hr : Row w ao (enc n)) :
    Calls Tryz.prog 72 #[.slice ao (enc n).length cap] w fun e w' => e = .returned (.tuple #[.int .i64 (n : Int), .bool true]) ∧ w' = w := by
  have h9 := enc_len9 (n := n) (by omega)
  have hrd := readNum_enc (n := n) (by omega) []
  rw [List.append_nil] at hrd
  have ht := Rd.readNum_any w ao cap (enc n) hr (by omega)
  rw [hrd] at ht
  have HT := mkH ht
  clear ht hrd hr h9
  generalize (enc n).length = m at *
  go_enter Tryz.func72, Tryz.ntmps72
  go_wp2_with fail
  refine HT.out.mono ?_
  rintro e w1 ⟨rfl, hw⟩
  have hw2 := hw.symm
  subst hw2
  clear hw
  unfold Rd.ans
  go_wp2
  go_ret2
  exact ⟨rfl, rfl⟩

/-- The last disk is called. -/
theorem map_set_last (f : Sg → St) (i : List Sg) (s t : Sg) : ((i ++ [s]).map f).set i.length (f t) = (i ++ [t]).map f := by
  rw [List.map_append, List.map_append, List.set_append_right _ _ (by simp)]
  simp

section
variable {w : World} {F : Nat → Prop} {B : Nat} {h : H}
set_option maxHeartbeats 2000000 in
theorem write_old {N : Nat} (hl : Lg w F B h) (hi : Inv N h) (hN : N ≤ 1000000) (hd : h.dn = none) (i : List Sg) (s : Sg) (hs : h.segs = i ++ [s]) (hf : s.recs.length < h.per) (ao : Option Addr) (cap : Nat) (r : List UInt8) (hr : Row w ao (Cp.frame r)) (hrl : r.length ≤ 400) :
    Calls Tryz.prog 68 #[.pointer (some ⟨B, 0, none⟩), .slice ao (Cp.frame r).length cap] w fun e w' => e = .returned (.int .i64 0) ∧
      ∃ F' v FD Ps, Lr w' F' FD B h.per false v (bas h.segs) (top h.segs) h.safe Ps ∧ Sk w' FD Ps ((i ++ [(⟨s.first, s.recs ++ [r], s.kept⟩ : Sg)]).map (dst none)) ∧ Nx F w w' F' := by
  obtain ⟨v, FD, Ps, h1, h2⟩ := lg_up hl hd
  obtain ⟨va, vc, rfl⟩ := own_form h1.row.1
  have c0 := h1.c0
  have c2 := h1.c2
  have c3 := h1.c3
  have c4 := h1.c4
  have hpl : Ps.length = i.length + 1 := by have := h2.1; rw [hs] at this; simpa using this
  have hch := hi.ch
  have hlen := all_len (by rw [hs] at hch; exact hch)
  rw [← hs] at hlen
  have htop := top_all0 hch
  have hper := hi.p2
  have hn := hi.n
  have hto := hi.top
  have hnl : h.segs.length = i.length + 1 := by rw [hs]; simp
  have hfs := hi.fits s (by rw [hs]; simp)
  obtain ⟨K, hK⟩ : ∃ K, (all h.segs).length = K := ⟨_, rfl⟩
  obtain ⟨M, hM⟩ : ∃ M, (i.length + 1) * h.per = M := ⟨_, rfl⟩
  have hM2 : M ≤ 262144 := by rw [← hM]; exact Nat.le_trans (Nat.mul_le_mul (show i.length + 1 ≤ 256 by omega) hper) (by decide)
  have hKM : K < M := by rw [← hM, ← hK, hlen, Nat.add_mul]; omega
  obtain ⟨D, hD⟩ := nth (l := Ps) (j := i.length) (by omega)
  obtain ⟨g, hva, hcg⟩ := lr_at h1 hD
  subst hva
  have hwd : ∀ q, Lr (w.drewN q) F FD B h.per false (.slice (some ⟨g, 0, none⟩) Ps.length vc) (bas h.segs) (top h.segs) h.safe Ps ∧ Sk (w.drewN q) FD Ps (h.segs.map (dst none)) ∧ Nx F w (w.drewN q) F ∧ Row (w.drewN q) ao (Cp.frame r) := fun q =>
    have hb : Below w.heap.size w (w.drewN q) := below_drewN (Below.refl _ _) q
    ⟨h1.below hb, h2.below hb, Nx.ofBelow hb, hr.below hb⟩
  have hst : ∀ q, ∃ G : Nat → Prop, Ds (w.drewN q) G D (dst none s) ∧ ∀ (w' : World) (G' : Nat → Prop) (s' : St), Ds w' G' D s' → Nx G (w.drewN q) w' G' → ∃ F' FD', Lr w' F' FD' B h.per false (.slice (some ⟨g, 0, none⟩) Ps.length vc) (bas h.segs) (top h.segs) h.safe Ps ∧ Sk w' FD' Ps ((h.segs.map (dst none)).set i.length s') ∧ Nx F w w' F' := fun q => by
    obtain ⟨a1, a2, a3, a4⟩ := hwd q
    exact disk_step a1 a2 a3 hD (by rw [hs]; simp)
  obtain ⟨ea, eb⟩ := dst_app hfs.2.2.2 r (by have := hfs.len; omega)
  have HST : Hid (∀ q, ∃ G : Nat → Prop, Ds (w.drewN q) G D (dst none s) ∧ ∀ (w' : World) (G' : Nat → Prop), Ds w' G' D (dst none ⟨s.first, s.recs ++ [r], s.kept⟩) → Nx G (w.drewN q) w' G' → (∃ F' v FD' Ps', Lr w' F' FD' B h.per false v (bas h.segs) (top h.segs) h.safe Ps' ∧ Sk w' FD' Ps' ((i ++ [(⟨s.first, s.recs ++ [r], s.kept⟩ : Sg)]).map (dst none)) ∧ Nx F w w' F') ∧
      w'.cell? ⟨B, 2, none⟩ = some (.slice (some ⟨g, 0, none⟩) (i.length + 1) vc) ∧ w'.cell? ⟨g, i.length, none⟩ = some (.pointer (some ⟨D, 0, none⟩))) := fun q => by
    obtain ⟨G, g1, g2⟩ := hst q
    refine ⟨G, g1, fun w' G' hd' hn' => ?_⟩
    obtain ⟨F', FD', e1, e2, e3⟩ := g2 w' G' _ hd' hn'
    rw [hs, map_set_last] at e2
    have k1 := e1.c2
    rw [hpl] at k1
    obtain ⟨g', hg', k2⟩ := lr_at e1 hD
    simp only [Option.some.injEq, Addr.mk.injEq, and_true] at hg'
    subst hg'
    rw [hs] at e1 ⊢
    exact ⟨⟨F', _, FD', Ps, e1, e2, e3⟩, k1, k2⟩
  have HRW : Hid (∀ q, Row (w.drewN q) ao (Cp.frame r)) := fun q => (hwd q).2.2.2
  have HEA := mkH ea
  have HEB := mkH eb
  have hfl : (Cp.frame r).length = 12 + r.length := Sp.frame_pos r
  obtain ⟨fl, hfl2⟩ : ∃ fl, (Cp.frame r).length = fl := ⟨_, rfl⟩
  have HFL := mkH hfl2
  have hflb : fl ≤ 1000 := by omega
  rw [hpl] at c2
  obtain ⟨L, hL⟩ : ∃ L, i.length = L := ⟨_, rfl⟩
  rw [hL] at c2 hcg hM
  obtain ⟨n, hn2⟩ : ∃ n, L + 1 = n := ⟨_, rfl⟩
  rw [hn2] at c2 hM
  rw [hL, hn2] at HST
  have hn3 : (n : Int) - 1 = (L : Int) := by omega
  have hLn : L < n := by omega
  have hLn2 : (0 : Int) ≤ (L : Int) := by omega
  have hLn3 : (L : Int) < (n : Int) := by omega
  have hLn4 : IntKind.i64.wrap (L : Int) = (L : Int) := wrap_fit L (by omega)
  have hLn5 : IntKind.i64.wrap ((n : Int) - 1) = (L : Int) := by rw [hn3]; exact hLn4
  have hnb : n ≤ 256 := by omega
  obtain ⟨T, hT⟩ : ∃ T, top h.segs = T := ⟨_, rfl⟩
  obtain ⟨Bs, hBs⟩ : ∃ Bs, bas h.segs = Bs := ⟨_, rfl⟩
  have hTb : (T : Int) - (Bs : Int) = (K : Int) := by omega
  have hmul : (n : Int) * (h.per : Int) = (M : Int) := by rw [← hM]; exact (Int.natCast_mul n h.per).symm
  have t1 : decide ((K : Int) < (M : Int)) = true := by simp; omega
  have t2 : (K : Int) < (M : Int) := by omega
  have hTN : T ≤ 1000000 := by omega
  have hKb : K ≤ 1000000 := by omega
  have hpb : h.per ≤ 1024 := hper
  rw [hT] at c4
  rw [hBs] at c3
  rw [hT, hBs] at HST
  rw [hT, hBs, hfl2]
  clear h1 h2 hl hwd hst ea eb hch hlen htop hto hnl hfs hs hpl hi hfl hfl2 hL hn2 hn hD hr hM hK hT hBs hper hf hd
  generalize h.per = per at *
  generalize h.safe = sf at *
  go_enter Tryz.func68, Tryz.ntmps68
  go_wp2_with fail
  go_quiet (fail)
  go_wp2_with fail
  obtain ⟨G, g1, g2⟩ := HST.out (nq + 1)
  have G2 := mkH g2
  have ha := Dc.append_any g1 ao cap (Cp.frame r) (HRW.out (nq + 1)) (by rw [HFL.out]; omega)
  rw [HEA.out, HEB.out, HFL.out] at ha
  have HA := mkH ha
  clear g1 g2 ha HST
  go_region_held3 (fun W => W.cell? ⟨B, 2, none⟩ = some (.slice (some ⟨g, 0, none⟩) n vc) ∧ W.cell? ⟨g, L, none⟩ = some (.pointer (some ⟨D, 0, none⟩))) (first | exact ⟨c2, hcg⟩ | exact hkeep | go_keep) (first
    | (go_at_call 82; refine HA.out.mono ?_; rintro e w3 ⟨rfl, G', h3, h4⟩; have hkeep := (G2.out w3 G' h3 h4).2))
  have HF := mkH (G2.out w3 G' h3 h4).1
  clear h3 h4 hkeep G2 HA c0 c2 c3 c4 hcg
  go_wp2
  go_ret
  exact ⟨rfl, HF.out⟩
end
end Go.Proofs.YthmedpabgblddabGreatDoor.Sc
