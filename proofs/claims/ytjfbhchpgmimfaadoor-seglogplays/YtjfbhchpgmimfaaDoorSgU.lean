/-
  The contract of Drop.
-/
import Derived.Test.YtjfbhchpgmimfaaDoorSgO
namespace Go.Proofs.YtjfbhchpgmimfaaDoor.Su
open Go.RowKit Kt Cs Cf Cv Dk Dp Da Db Dc Dd De Sq Sr Sa Sb Sc Se So Pl
set_option linter.unusedVariables false
set_option maxRecDepth 20000

section
variable {w : World} {F : Nat → Prop} {B : Nat} {h : H}
theorem drop_down {p : Int × Int} (hl : Lg w F B h) (hp : 1 ≤ h.per) (hd : h.dn = some p) (n : Int) :
    Calls Tryd.prog 30 #[.pointer (some ⟨B, 0, none⟩), .int .i64 n] w fun e w' => e = .returned (.int .i64 10) ∧ w' = w := by
  obtain ⟨c0, c1⟩ := lg_cells hl
  rw [hd] at c1
  clear hl hd
  go_enter Tryd.func30, Tryd.ntmps30
  go_wp2_with fail
  refine (Sa.trouble_any w B _ true hp c0 c1).mono ?_
  rintro e w1 ⟨rfl, hw⟩
  have hw2 := hw.symm
  subst hw2
  clear hw
  go_wp2
  go_ret
  exact ⟨rfl, rfl⟩

theorem drop_bad (hl : Lg w F B h) (hp : 1 ≤ h.per) (hd : h.dn = none) (n : Int) (hn : (h.safe : Int) < n) :
    Calls Tryd.prog 30 #[.pointer (some ⟨B, 0, none⟩), .int .i64 n] w fun e w' => e = .returned (.int .i64 2) ∧ w' = w := by
  obtain ⟨v, FD, Ps, h1, h2⟩ := lg_up hl hd
  have c0 := h1.c0
  have c1 := h1.c1
  have c5 := h1.c5
  have t1 : decide ((h.safe : Int) < n) = true := by simp; omega
  clear hl hd h1 h2
  go_enter Tryd.func30, Tryd.ntmps30
  go_wp2_with fail
  refine (Sa.trouble_any w B _ false hp c0 c1).mono ?_
  rintro e w1 ⟨rfl, hw⟩
  have hw2 := hw.symm
  subst hw2
  clear hw
  go_wp2
  go_ret
  exact ⟨rfl, rfl⟩

theorem drop_low (hl : Lg w F B h) (hp : 1 ≤ h.per) (hd : h.dn = none) (n : Int) (hn : n ≤ h.safe) (hb : n ≤ bas h.segs) :
    Calls Tryd.prog 30 #[.pointer (some ⟨B, 0, none⟩), .int .i64 n] w fun e w' => e = .returned (.int .i64 0) ∧ w' = w := by
  obtain ⟨v, FD, Ps, h1, h2⟩ := lg_up hl hd
  have c0 := h1.c0
  have c1 := h1.c1
  have c3 := h1.c3
  have c5 := h1.c5
  have t1 : decide ((h.safe : Int) < n) = false := by simp; omega
  have t2 : ¬ (h.safe : Int) < n := by omega
  have t3 : decide (n ≤ (bas h.segs : Int)) = true := by simp; omega
  clear hl hd h1 h2
  go_enter Tryd.func30, Tryd.ntmps30
  go_wp2_with fail
  refine (Sa.trouble_any w B _ false hp c0 c1).mono ?_
  rintro e w1 ⟨rfl, hw⟩
  have hw2 := hw.symm
  subst hw2
  clear hw
  go_wp2
  go_ret
  exact ⟨rfl, rfl⟩

set_option maxHeartbeats 2000000 in
theorem drop_some {N : Nat} (hl : Lg w F B h) (hi : Inv N h) (hN : N ≤ 1000000) (hd : h.dn = none) (m : Nat) (hn : m ≤ h.safe) (hb : bas h.segs < m) :
    Calls Tryd.prog 30 #[.pointer (some ⟨B, 0, none⟩), .int .i64 (m : Int)] w fun e w' => e = .returned (.int .i64 0) ∧ ∃ F', Lg w' F' B (dro h m) ∧ Nx F w w' F' := by
  have hg := gone_lt hi (n := (m : Int)) (by omega)
  have hdro : dro h m = { h with segs := h.segs.drop (gone h m) } := by unfold dro; rw [if_neg (by omega)]
  have hgo : gone h m = min ((m - bas h.segs) / h.per) (h.segs.length - 1) := by unfold gone; rw [if_neg (by omega)]; simp
  have hne : h.segs ≠ [] := by
    intro e
    have := hi.hi
    rw [e] at this
    simp [top] at this
    omega
  have hl0 : 0 < h.segs.length := List.length_pos_iff.2 hne
  have hgl : gone h m < h.segs.length := by rw [hgo]; omega
  have hbas := bas_drop hi.ch hgl
  have htop := top_drop hgl
  have hto := hi.top
  have hhi := hi.hi
  obtain ⟨v, FD, Ps, h1, h2⟩ := lg_up hl hd
  obtain ⟨ao, cap, rfl⟩ := own_form h1.row.1
  have hpl : Ps.length = h.segs.length := by have := h2.1; simpa using this
  have c0 := h1.c0
  have c1 := h1.c1
  have c2 := h1.c2
  have c3 := h1.c3
  have c5 := h1.c5
  have hp := hi.p1
  have hp2 := hi.p2
  have hn2 := hi.n
  rw [hdro]
  obtain ⟨Bs, hBs⟩ : ∃ Bs, bas h.segs = Bs := ⟨_, rfl⟩
  obtain ⟨sf, hsf⟩ : ∃ sf, h.safe = sf := ⟨_, rfl⟩
  obtain ⟨per, hper⟩ : ∃ per, h.per = per := ⟨_, rfl⟩
  obtain ⟨gn, hgn⟩ : ∃ gn, gone h m = gn := ⟨_, rfl⟩
  obtain ⟨n, hnn⟩ : ∃ n, Ps.length = n := ⟨_, rfl⟩
  obtain ⟨qd, hqd⟩ : ∃ qd, (m - Bs) / per = qd := ⟨_, rfl⟩
  rw [hgn, hBs, hper, ← hpl, hnn, hqd] at hgo
  have e1 : (m : Int) - (Bs : Int) = ((m - Bs : Nat) : Int) := by omega
  have e2 : Int.tdiv ((m - Bs : Nat) : Int) (per : Int) = (qd : Int) := by rw [← hqd]; rfl
  have e3 : (n : Int) - 1 = ((n - 1 : Nat) : Int) := by omega
  have e4 : (if ((n - 1 : Nat) : Int) < (qd : Int) then ((n - 1 : Nat) : Int) else (qd : Int)) = (gn : Int) := by rw [hgo]; split <;> omega
  have e4' : (if n - 1 < qd then ((n - 1 : Nat) : Int) else (qd : Int)) = (gn : Int) := by rw [hgo]; split <;> omega
  rw [hBs] at c3 hb hbas
  rw [hsf] at c5 hn
  rw [hper] at c0
  rw [hnn] at c2
  have t1 : decide ((sf : Int) < (m : Int)) = false := by simp; omega
  have t2 : decide ((m : Int) ≤ (Bs : Int)) = false := by simp; omega
  have t3 : ¬ (sf : Int) < (m : Int) := by omega
  have t4 : ¬ (m : Int) ≤ (Bs : Int) := by omega
  have t5 : ((per : Int) == 0) = false := by simp; omega
  have t6 : (per : Int) ≠ 0 := by omega
  have hmb : m ≤ 1000000 := by omega
  have hqb : qd ≤ 1000000 := by rw [← hqd]; exact Nat.le_trans (Nat.div_le_self _ _) (by omega)
  have hgnb : gn ≤ 256 := by omega
  have hgn2 : gn ≤ n := by omega
  have hnb : n ≤ 256 := by omega
  obtain ⟨bn, hbn⟩ : ∃ bn, Bs + gn * per = bn := ⟨_, rfl⟩
  obtain ⟨gp, hgp⟩ : ∃ gp, gn * per = gp := ⟨_, rfl⟩
  have e5 : (gn : Int) * (per : Int) = (gp : Int) := by rw [← hgp]; exact (Int.natCast_mul _ _).symm
  have e6 : (Bs : Int) + (gp : Int) = (bn : Int) := by omega
  have hgpb : gp ≤ 300000 := by rw [← hgp]; exact Nat.le_trans (Nat.mul_le_mul (show gn ≤ 256 by omega) (show per ≤ 1024 by omega)) (by decide)
  have HL := mkH h1
  have HS := mkH h2
  have HD := mkH hd
  have HNN := mkH hnn
  have HBN := mkH (show bas (h.segs.drop gn) = bn by rw [← hgn, hbas, hgn, hper]; exact hbn)
  have HTT := mkH (show top (h.segs.drop gn) = top h.segs by rw [← hgn]; exact htop)
  have HPER := mkH hper
  have HSF := mkH hsf
  have HBS := mkH hBs
  rw [hgn]
  clear hl hi hd hg hdro hne hl0 hgl htop hto hhi h1 h2 hpl hbas hBs hsf hper hgn hnn hqd hgo hbn hgp
  go_enter Tryd.func30, Tryd.ntmps30
  go_wp2_with fail
  refine (Sa.trouble_any w B per false (by omega) c0 c1).mono ?_
  rintro e w1 ⟨rfl, hw⟩
  have hw2 := hw.symm
  subst hw2
  clear hw
  go_wp2_with fail
  go_region
  have hb1 : Below w.heap.size w w.drew := ⟨rfl, rfl, rfl, Nat.le_refl _, fun _ _ => rfl⟩
  have hl1 := HL.out.below hb1
  have hown := hl1.row.1
  rw [HNN.out] at hown
  have HL1 := mkH hl1
  have hd2 := delete_any w.drew ao n cap 0 gn Ps hown (Nat.zero_le _) hgn2 hnb
  have HDEL := mkH hd2
  clear hl1 hd2 hown e1 e2 e3
  go_wp2_with fail
  refine HDEL.out.mono ?_
  rintro e w4 ⟨rfl, hown4, hf4⟩
  have hrow2 : ∀ g, (Value.slice ao n cap).ownBlock = some g → F g ∧ g ≠ B ∧ ¬ FD g := by have := HL1.out.row.2; rw [HNN.out] at this; exact this
  have hh4 := (hf4.heap HL1.out.blt (fun x => (hrow2 _ x).2.1 rfl)).trans HL1.out.heap
  have d2 : w4.cell? ⟨B, 2, none⟩ = some (.slice ao Ps.length cap) := by rw [cell_of_row _ _ _ _ _ _ hh4]; rfl
  have g2 := frozen_of_row w4 B 2 _ _ hh4
  rw [List.take_zero, List.nil_append, Nat.sub_zero] at hown4
  have hpl : (Ps.drop gn).length = n - gn := by rw [List.length_drop, HNN.out]
  have hob : (Value.slice ao (n - gn) cap).ownBlock = (Value.slice ao n cap).ownBlock := by cases ao <;> rfl
  have hrp : Rp w4 F FD B (.slice ao (n - gn) cap) (Ps.drop gn) := ⟨by rw [hpl]; exact hown4, fun g hg => hrow2 g (by rw [← hob]; exact hg)⟩
  have hl5 := lr_mk (fun k hk => Nat.lt_of_lt_of_le (HL1.out.lt k hk) hf4.size) HL1.out.own HL1.out.fd hh4 hrp
  have hs5 := (((HS.out.below hb1).fr hf4 (fun k hk x => (hrow2 k x).2.2 hk)).drop gn).fr (lr_fr2 hh4 (.slice ao (n - gn) cap)) (fun k hk e => (HL1.out.fd k hk).2 e)
  have hn4 : Nx F w w4 F := Nx.trans (Nx.ofBelow hb1) ⟨hf4.mono (fun k x => (hrow2 k x).1), fun k hk => .inl hk⟩
  have hn5 : Nx F w (w4.setCell ⟨B, 2, none⟩ (.slice ao (n - gn) cap)) F := Nx.trans hn4 (nx_own (lr_fr2 hh4 _) HL1.out.own)
  have HG := mkH (And.intro hl5 (And.intro hs5 hn5))
  have k3 := hl5.c3
  have k0 := hl5.c0
  have m3 := hl5.fz 3
  rw [HBS.out] at k3
  rw [HPER.out] at k0
  have k3d : (w4.setCell ⟨B, 2, none⟩ (.slice ao (n - gn) cap)).drew.cell? ⟨B, 3, none⟩ = some (.int .i64 (Bs : Int)) := k3
  clear hl5 hs5 hn5 hn4 hrp hown4 hf4 hh4 hpl hob hrow2 hb1 HDEL HL1
  rw [Nat.sub_zero]
  go_wp2_with fail
  go_region
  go_wp2
  go_ret
  obtain ⟨hl5, hs5, hn5⟩ := HG.out
  have hlb := hl5.setBase bn
  have hsb := Sk.lr hs5 hl5 3 (.int .i64 (bn : Int))
  have hnb' := hn5.trans (hl5.nx 3 (.int .i64 (bn : Int)))
  have hbd : Below ((w4.setCell ⟨B, 2, none⟩ (.slice ao (n - gn) cap)).setCell ⟨B, 3, none⟩ (.int .i64 (bn : Int))).heap.size ((w4.setCell ⟨B, 2, none⟩ (.slice ao (n - gn) cap)).setCell ⟨B, 3, none⟩ (.int .i64 (bn : Int))) ((w4.setCell ⟨B, 2, none⟩ (.slice ao (n - gn) cap)).setCell ⟨B, 3, none⟩ (.int .i64 (bn : Int))).drew := ⟨rfl, rfl, rfl, Nat.le_refl _, fun _ _ => rfl⟩
  refine ⟨rfl, F, lg_ofUp (h := { h with segs := h.segs.drop gn }) HD.out (v := .slice ao (n - gn) cap) (FD := FD) (Ps := Ps.drop gn) ?_ ?_, hnb'.trans (Nx.ofBelow hbd)⟩
  · show Lr _ F FD B h.per false _ (bas (h.segs.drop gn)) (top (h.segs.drop gn)) h.safe _
    rw [HBN.out, HTT.out]
    exact hlb.below hbd
  · show Sk _ FD _ ((h.segs.drop gn).map (dst none))
    rw [List.map_drop]
    exact hsb.below hbd
end
end Go.Proofs.YtjfbhchpgmimfaaDoor.Su
