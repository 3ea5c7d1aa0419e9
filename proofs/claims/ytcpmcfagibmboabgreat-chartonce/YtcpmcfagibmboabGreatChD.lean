/-
  gather made; a list of pieces moved.
-/
import Derived.Test.YtcpmcfagibmboabGreatChC
import Derived.Laws.EntriesVeiled
import Derived.Deep.DeepCutAuto
import Derived.Deep.RegionHeld3
namespace Go.Proofs.YtcpmcfagibmboabGreat.Cd
open Go.RowKit Pl Pw Pr Pf Pv Cp Ca Cb Cc Gf Gk
open Cr hiding some_of
open Kt hiding mkH
open Kv
set_option linter.unusedVariables false
set_option linter.unusedSimpArgs false
set_option maxRecDepth 20000

theorem res_tc {fn : Func} {p q : Tmp} {t : TypeId} (h : fn.results = #[.tmp p, .cell q t]) (tmps : Array Value) (P : Program) (w : World) {b : Addr} {x y : Value}
    (hp : tmps.getD p undef = x) (hq : tmps.getD q undef = .pointer (some b)) (hx : (loadVar t b).run P w = .ok y w) :
    (results fn tmps).run P w = .ok (.tuple #[x, y]) w := by
  have hp' : tmps[p]?.getD undef = x := by simpa using hp
  have hq' : tmps[q]?.getD undef = .pointer (some b) := by simpa using hq
  simp only [results, h]
  simp [Sem.run_bind, Result.andThen, hp', hq', asAddr, hx]

set_option maxHeartbeats 1000000 in
theorem gather_any (w : World) : Calls Tryz.prog 33 #[] w fun e w' => e = .returned (.tuple #[fAdd w.heap.size, fAll w.heap.size]) ∧ Gs w' w.heap.size none 0 [] (0, 0, 0) ∧ Below w.heap.size w w' := by
  obtain ⟨W3, hW3⟩ : ∃ W3, W3 = ((w.alloc (.cells #[fAll w.heap.size] 91)).alloc (.cells #[.slice none 0 0] 49)).alloc (.cells #[.int .i64 0, .int .i64 0, .int .i64 0] 87) := ⟨_, rfl⟩
  have b1 : Bx W3 w.heap.size #[fAll w.heap.size] 91 := by rw [hW3]; exact ((Bx.new w _ _).alloc _).alloc _
  have b2 : Bx W3 (w.heap.size + 1) #[.slice none 0 0] 49 := by rw [hW3]; exact (Bx.new1 w _ _ _).alloc _
  have b3 : Bx W3 (w.heap.size + 2) #[.int .i64 0, .int .i64 0, .int .i64 0] 87 := by rw [hW3]; exact Bx.new2 w _ _ _ _
  have hB : Below w.heap.size w W3 := by rw [hW3]; exact (((Below.refl _ w).alloc (Nat.le_refl _) _).alloc (by simp) _).alloc (by simp; omega) _
  have c0 := b1.cell 0 _ rfl
  have f0 := b1.frozen 0
  have s1 := b1.set 0 (fAll w.heap.size)
  have c1 : (W3.setCell ⟨w.heap.size, 0, none⟩ (fAll w.heap.size)).cell? ⟨w.heap.size, 0, none⟩ = some (fAll w.heap.size) := s1.cell 0 _ rfl
  have HG : Hid (Gs (W3.setCell ⟨w.heap.size, 0, none⟩ (fAll w.heap.size)) w.heap.size none 0 [] (0, 0, 0)) := mkH ⟨s1, (b2.other (by simp) _), (b3.other (by simp) _), World.ownsRow_nil _ _ _ _⟩
  have HB : Hid (Below w.heap.size w (W3.setCell ⟨w.heap.size, 0, none⟩ (fAll w.heap.size))) := mkH (hB.setCell (Nat.le_refl _) _)
  have HW := mkH hW3
  clear b1 b2 b3 hB s1 hW3
  go_enter Tryz.func33, Tryz.ntmps33
  go_wp2_with fail
  simp only [show w.heap.size + 1 + 1 = w.heap.size + 2 from rfl]
  have hW3 := HW.out
  rw [show ((w.alloc (.cells #[.func (.func 55) #[] #[.pointer (some ⟨w.heap.size + 2, 0, none⟩), .pointer (some ⟨w.heap.size + 1, 0, none⟩)]] 91)).alloc (.cells #[.slice none 0 0] 49)).alloc (.cells #[.int .i64 0, .int .i64 0, .int .i64 0] 87) = W3 from hW3.symm]
  clear hW3 HW
  go_region
  go_wp2
  exact bodyPost_ret (v := .tuple #[fAdd w.heap.size, fAll w.heap.size]) (res_tc rfl _ _ _ (x := fAdd w.heap.size) (y := fAll w.heap.size) (b := ⟨w.heap.size, 0, none⟩) (by rfl) (by rfl) (by simp [loadVar, go_sem, c1])) rfl ⟨rfl, HG.out.keep (Below.refl _ _).drew, HB.out.drew⟩

/-- What came behind one piece. -/
theorem mvd_snoc {r : Rg} {tg : Int} {ps : List Pc} {k : Nat} {p : Pc} (h : ps[k]? = some p) : mv r tg [] (ps.take (k + 1)) = mv1 r tg (mv r tg [] (ps.take k)) p := by
  unfold mv
  rw [List.take_add_one, h, List.foldl_append]; rfl

/-- What came so far, beside a world ahead: of its blocks only the two boxes and the row's have turned. -/
def Stp (W1 : World) (n : Nat) (aM : Option Addr) (L : List Pc) (W : World) : Prop :=
  ∃ (ao : Option Addr) (cap : Nat) (M : List Pc) (z : Pc), Gs W n ao cap M z ∧ St M z L ∧ Fr (fun k => k = n + 1 ∨ k = n + 2 ∨ rb aM k) W1 W ∧ ∀ k, rb ao k → rb aM k ∨ W1.heap.size ≤ k
theorem Stp.below {W1 W W' : World} {n : Nat} {aM : Option Addr} {L : List Pc} (h : Stp W1 n aM L W) (hb : Below W.heap.size W W') : Stp W1 n aM L W' := by
  obtain ⟨ao, cap, M, z, h1, h2, h3, h4⟩ := h
  exact ⟨ao, cap, M, z, h1.keep hb, h2, h3.trans (Fr.ofBelow (F := fun _ => False) hb) (fun i hi => hi.elim), h4⟩
theorem Stp.bx {W1 W : World} {n : Nat} {aM : Option Addr} {L : List Pc} (h : Stp W1 n aM L W) {b : Nat} {cs : Array Value} {t : TypeId} (hB : Bx W1 b cs t) (h1 : b ≠ n + 1) (h2 : b ≠ n + 2) (h3 : ¬ rb aM b) : Bx W b cs t := by
  obtain ⟨ao, cap, M, z, _, _, hf, _⟩ := h
  exact hB.fr hf (fun hq => by rcases hq with e | e | e; exact h1 e; exact h2 e; exact h3 e)
theorem Stp.add {W1 W : World} {n : Nat} {aM : Option Addr} {L : List Pc} (h : Stp W1 n aM L W) (hl : L.length ≤ 1000000) (x y s : Int) (hs0 : s ≠ 0) :
    Calls Tryz.prog 56 #[.agg #[.int .i64 x, .int .i64 y], .int .i64 s, .pointer (some ⟨n + 2, 0, none⟩), .pointer (some ⟨n, 0, none⟩), .pointer (some ⟨n + 1, 0, none⟩)] W fun e w' => e = .returned (.tuple #[]) ∧ Stp W1 n aM (pu L (x, y) s) w' := by
  obtain ⟨ao, cap, M, z, h1, h2, h3, h4⟩ := h
  refine (add_any W n ao cap M z L h1 h2 hl x y s hs0).mono ?_
  rintro e w' ⟨he, ao', cap', M', z', g1, g2, g3, g4⟩
  refine ⟨he, ao', cap', M', z', g1, g2, h3.trans g3 (fun i hi => ?_), fun k hk => ?_⟩
  · rcases hi with e | e | e
    · exact .inl (.inl e)
    · exact .inl (.inr (.inl e))
    · rcases h4 i e with e | e
      · exact .inl (.inr (.inr e))
      · exact .inr e
  · rcases g4 k hk with e | e
    · exact h4 k e
    · exact .inr (Nat.le_trans h3.size e)

set_option maxHeartbeats 4000000 in
theorem moved_any (w : World) (ao : Option Addr) (cap : Nat) (ps : List Pc) (h : RdP w ao cap ps) (hl : ps.length ≤ 100000) (hsh : ∀ p ∈ ps, p.2.2 ≠ 0) (r1 r2 tg : Int) (ht : tg ≠ 0) :
    Calls Tryz.prog 48 #[.slice ao ps.length cap, .agg #[.int .i64 r1, .int .i64 r2], .int .i64 tg] w fun e w' => ∃ ao' cap', e = .returned (.slice ao' (mv (r1, r2) tg [] ps).length cap') ∧ OwP w' w.heap.size ao' cap' (mv (r1, r2) tg [] ps) ∧ Below w.heap.size w w' := by
  have HR := mkH h
  clear h
  go_enter Tryz.func48, Tryz.ntmps48
  go_wp2_with fail
  have hb0 : Bx (w.alloc (.cells #[.int .i64 r1, .int .i64 r2] 30)) w.heap.size #[.int .i64 r1, .int .i64 r2] 30 := Bx.new _ _ _
  have hB0 := (Below.refl w.heap.size w).alloc (Nat.le_refl _) (.cells #[.int .i64 r1, .int .i64 r2] 30)
  have hz0 : w.heap.size < (w.alloc (.cells #[.int .i64 r1, .int .i64 r2] 30)).heap.size := by simp
  have c0 := hb0.cell 0 _ rfl
  have c1 := hb0.cell 1 _ rfl
  generalize w.alloc (.cells #[.int .i64 r1, .int .i64 r2] 30) = W1 at hb0 hB0 hz0 c0 c1 ⊢
  have HB0 := mkH hb0
  have HBB0 := mkH hB0
  clear hb0 hB0
  go_cut [7, 8] (fun v7 v8 wc => ∃ B7 B8 : Nat, v7 = .pointer (some ⟨B7, 0, none⟩) ∧ v8 = .pointer (some ⟨B8, 0, none⟩) ∧ Hid (Bx wc B7 #[.int .i64 0, .int .i64 r1] 30) ∧ Hid (Bx wc B8 #[.int .i64 r2, .int .i64 65536] 30) ∧ Hid (Bx wc w.heap.size #[.int .i64 r1, .int .i64 r2] 30) ∧ Hid (Below w.heap.size w wc))
  case first =>
    go_region
    all_goals
      go_wp2_with fail
      go_meet
      first
        | exact ⟨_, _, rfl, rfl, mkH (((Bx.new W1 _ _).alloc _).bel (Below.refl _ _).drew), mkH ((Bx.new1 W1 _ _ _).bel (Below.refl _ _).drew), mkH (((HB0.out.alloc _).alloc _).bel (Below.refl _ _).drew), mkH (((HBB0.out.alloc HBB0.out.size _).alloc (by have := HBB0.out.size; simp; omega) _).drew)⟩
        | exact ⟨_, _, rfl, rfl, mkH ((Bx.new1 W1 _ _ _).bel (Below.refl _ _).drew), mkH (((Bx.new W1 _ _).alloc _).bel (Below.refl _ _).drew), mkH (((HB0.out.alloc _).alloc _).bel (Below.refl _ _).drew), mkH (((HBB0.out.alloc HBB0.out.size _).alloc (by have := HBB0.out.size; simp; omega) _).drew)⟩
  case rest =>
    obtain ⟨B7, B8, rfl, rfl, H7, H8, H4, HBC⟩ := hcut
    have HGA := mkH (gather_any wc)
    clear c0 c1
    go_wp2_with fail
    refine HGA.out.mono ?_
    rintro e w2 ⟨rfl, hG, hb2⟩
    have HG0 := mkH hG
    have H7' := mkH (H7.out.bel hb2)
    have H8' := mkH (H8.out.bel hb2)
    have H4' := mkH (H4.out.bel hb2)
    have hl7 := H7.out.lt
    have hl8 := H8.out.lt
    have hl4 := H4.out.lt
    have HB2 := mkH (HBC.out.trans (hb2.mono HBC.out.size))
    have hwn := HBC.out.size
    clear hG hb2 HGA H7 H8 H4 HBC HB0 HBB0 hz0
    generalize wc.heap.size = n at *
    go_wp2
    go_loopw [25] (fun i wr => ∃ k : Nat, k ≤ ps.length ∧ i = .int .i64 k ∧ ∃ (ao : Option Addr) (cap : Nat) (M : List Pc) (z : Pc), Hid (Gs wr n ao cap M z) ∧ Hid (St M z (mv (r1, r2) tg [] (ps.take k))) ∧ Hid (Bx wr B7 #[.int .i64 0, .int .i64 r1] 30) ∧ Hid (Bx wr B8 #[.int .i64 r2, .int .i64 65536] 30) ∧ Hid (Bx wr w.heap.size #[.int .i64 r1, .int .i64 r2] 30) ∧ Hid (Below w.heap.size w wr)) (fun i _ => ps.length - (intOf i).toNat)
    case atStart => exact ⟨0, Nat.zero_le _, rfl, none, 0, [], (0, 0, 0), HG0, mkH (.inl ⟨rfl, rfl, rfl⟩), H7', H8', H4', HB2⟩
    case round =>
      obtain ⟨k, hk, rfl, aM, cM, M, z, HG, HS, H7, H8, H4, HB⟩ := hrel
      clear HG0 H7' H8' H4' HB2
      by_cases hlt : k < ps.length
      · obtain ⟨p, hp⟩ := Cr.some_of hlt
        obtain ⟨b, o, e1, c0, c1, c2⟩ := atP (HR.out.r.below (HB.out)) hp
        subst e1
        have hi : (k : Int) < (ps.length : Int) := by omega
        have hi0 : (0 : Int) ≤ (k : Int) := by omega
        have HP := mkH (mvd_snoc (r := (r1, r2)) (tg := tg) hp)
        have hps := hsh p (List.mem_of_getElem? hp)
        have hlm : (mv (r1, r2) tg [] (ps.take k)).length ≤ 300000 := by have := mv_len (r1, r2) tg (ps.take k) []; rw [List.length_take] at this; simp at this; omega
        have HST : Hid (Stp (wr.alloc (.cells #[.int .i64 p.1, .int .i64 p.2.1, .int .i64 p.2.2] 87)) n aM (mv (r1, r2) tg [] (ps.take k)) (wr.alloc (.cells #[.int .i64 p.1, .int .i64 p.2.1, .int .i64 p.2.2] 87))) :=
          mkH ⟨aM, cM, M, z, HG.out.keep ((Below.refl _ wr).alloc (Nat.le_refl _) _), HS.out, Fr.refl _ _, fun k hk => .inl hk⟩
        have hsz := HG.out.lt
        have HRB : Hid (¬ rb aM wr.heap.size) := mkH (fun hq => by have := HG.out.row _ hq; omega)
        have HRBo : Hid (∀ k, k < n → ¬ rb aM k) := mkH (fun k hk hq => by have := HG.out.row _ hq; omega)
        have HX : Hid (Bx (wr.alloc (.cells #[.int .i64 p.1, .int .i64 p.2.1, .int .i64 p.2.2] 87)) wr.heap.size #[.int .i64 p.1, .int .i64 p.2.1, .int .i64 p.2.2] 87) := mkH (Bx.new _ _ _)
        have J7 := mkH (H7.out.alloc (.cells #[.int .i64 p.1, .int .i64 p.2.1, .int .i64 p.2.2] 87))
        have J8 := mkH (H8.out.alloc (.cells #[.int .i64 p.1, .int .i64 p.2.1, .int .i64 p.2.2] 87))
        have J4 := mkH (H4.out.alloc (.cells #[.int .i64 p.1, .int .i64 p.2.1, .int .i64 p.2.2] 87))
        have HBA := mkH (HB.out.alloc HB.out.size (.cells #[.int .i64 p.1, .int .i64 p.2.1, .int .i64 p.2.2] 87))
        have hsw := HB.out.size
        have HPP := mkH hp
        clear hp HG HS H7 H8 H4 HB
        go_wp2_with fail
        have hsz1 : wr.heap.size < (wr.alloc (.cells #[.int .i64 p.1, .int .i64 p.2.1, .int .i64 p.2.2] 87)).heap.size := by simp
        clear c0 c1 c2
        generalize wr.heap.size = b12 at *
        generalize wr.alloc (.cells #[.int .i64 p.1, .int .i64 p.2.1, .int .i64 p.2.2] 87) = W1 at *
        obtain ⟨p1, p2, p3⟩ := p
        simp only at HX hps HP
        generalize mv (r1, r2) tg [] (ps.take k) = L at *
        have a0 := HX.out.cell 0 _ rfl
        have a1 := HX.out.cell 1 _ rfl
        have a2 := HX.out.cell 2 _ rfl
        have e0 := J7.out.cell 0 _ rfl
        have e1 := J7.out.cell 1 _ rfl
        have HCEL : Hid (∀ w' L', Stp W1 n aM L' w' → w'.cell? ⟨b12, 0, none⟩ = some (.int .i64 p1) ∧ w'.cell? ⟨b12, 1, none⟩ = some (.int .i64 p2) ∧ w'.cell? ⟨b12, 2, none⟩ = some (.int .i64 p3) ∧ w'.cell? ⟨B7, 0, none⟩ = some (.int .i64 0) ∧ w'.cell? ⟨B7, 1, none⟩ = some (.int .i64 r1)) := mkH (fun w' L' hst => by
          have x := hst.bx HX.out (by omega) (by omega) HRB.out
          have y := hst.bx J7.out (by omega) (by omega) (HRBo.out _ hl7)
          exact ⟨x.cell 0 _ rfl, x.cell 1 _ rfl, x.cell 2 _ rfl, y.cell 0 _ rfl, y.cell 1 _ rfl⟩)
        have hm1 := fun W => meet_any W p1 p2 0 r1
        have hm2 := fun W => meet_any W p1 p2 r1 r2
        have hm3 := fun W => meet_any W p1 p2 r2 65536
        have HMV : Hid (mv (r1, r2) tg [] (ps.take (k + 1)) = pu (pu (pu L (meet (p1, p2) (0, r1)) p3) (meet (p1, p2) (r1, r2)) tg) (meet (p1, p2) (r2, 65536)) p3) := HP
        generalize meet (p1, p2) (0, r1) = m1 at hm1 HMV
        generalize meet (p1, p2) (r1, r2) = m2 at hm2 HMV
        generalize meet (p1, p2) (r2, 65536) = m3 at hm3 HMV
        obtain ⟨x1, y1⟩ := m1
        obtain ⟨x2, y2⟩ := m2
        obtain ⟨x3, y3⟩ := m3
        unfold R at hm1 hm2 hm3
        simp only at hm1 hm2 hm3
        have hl1 : (pu L (x1, y1) p3).length ≤ 300001 := by have := pu_len L (x1, y1) p3; omega
        have hl2 : (pu (pu L (x1, y1) p3) (x2, y2) tg).length ≤ 300002 := by have := pu_len (pu L (x1, y1) p3) (x2, y2) tg; omega
        clear HP
        have HC7 : Hid (∀ w' L', Stp W1 n aM L' w' → w'.cell? ⟨b12, 0, none⟩ = some (.int .i64 p1) ∧ w'.cell? ⟨b12, 1, none⟩ = some (.int .i64 p2) ∧ w'.cell? ⟨b12, 2, none⟩ = some (.int .i64 p3) ∧ w'.cell? ⟨w.heap.size, 0, none⟩ = some (.int .i64 r1) ∧ w'.cell? ⟨w.heap.size, 1, none⟩ = some (.int .i64 r2)) := mkH (fun w' L' hst => by
          have x := hst.bx HX.out (by omega) (by omega) HRB.out
          have y := hst.bx J4.out (by omega) (by omega) (HRBo.out _ hl4)
          exact ⟨x.cell 0 _ rfl, x.cell 1 _ rfl, x.cell 2 _ rfl, y.cell 0 _ rfl, y.cell 1 _ rfl⟩)
        have HC8 : Hid (∀ w' L', Stp W1 n aM L' w' → w'.cell? ⟨b12, 0, none⟩ = some (.int .i64 p1) ∧ w'.cell? ⟨b12, 1, none⟩ = some (.int .i64 p2) ∧ w'.cell? ⟨b12, 2, none⟩ = some (.int .i64 p3) ∧ w'.cell? ⟨B8, 0, none⟩ = some (.int .i64 r2) ∧ w'.cell? ⟨B8, 1, none⟩ = some (.int .i64 65536)) := mkH (fun w' L' hst => by
          have x := hst.bx HX.out (by omega) (by omega) HRB.out
          have y := hst.bx J8.out (by omega) (by omega) (HRBo.out _ hl8)
          exact ⟨x.cell 0 _ rfl, x.cell 1 _ rfl, x.cell 2 _ rfl, y.cell 0 _ rfl, y.cell 1 _ rfl⟩)
        go_cut [] (fun wc => Hid (Stp W1 n aM (pu L (x1, y1) p3) wc))
        case first =>
          go_region_held3 (fun w' => w'.cell? ⟨b12, 0, none⟩ = some (.int .i64 p1) ∧ w'.cell? ⟨b12, 1, none⟩ = some (.int .i64 p2) ∧ w'.cell? ⟨b12, 2, none⟩ = some (.int .i64 p3) ∧ w'.cell? ⟨B7, 0, none⟩ = some (.int .i64 0) ∧ w'.cell? ⟨B7, 1, none⟩ = some (.int .i64 r1)) (first | go_keep | exact hkeep) (first
            | (go_at_call 56; refine (Stp.add hst3.out (by omega) x1 y1 p3 hps).mono ?_; rintro e w4 ⟨rfl, hst4'⟩; have hst4 := mkH hst4'; have hkeep := (by exact HCEL.out w4 _ hst4'); clear hst4')
            | (go_at_call 76; refine (hm1 _).mono ?_; rintro e w3 ⟨rfl, hg3⟩; have hst3 := mkH ((HST.out.below (Below.refl _ _).drew).below hg3.below); have hkeep := (by exact HCEL.out w3 _ hst3.out); clear hg3))
          all_goals
            go_wp2_with fail
            go_meet
            exact hst4
        case rest =>
          have HST1 := hcut
          obtain ⟨t0, t1, t2, t3, t4⟩ := HC7.out wc _ HST1.out
          clear a0 a1 a2 e0 e1 HCEL HST hcut
          go_wp2_with fail
          refine (hm2 _).mono ?_
          rintro e w5 ⟨rfl, hg5⟩
          have HST2 := mkH (HST1.out.below hg5.below)
          clear hg5 HST1 t0 t1 t2 t3 t4
          go_wp2_with fail
          refine (HST2.out.add (by omega) x2 y2 tg ht).mono ?_
          rintro e w6 ⟨rfl, hst6⟩
          have HST3 := mkH hst6
          obtain ⟨a0, a1, a2, e0, e1⟩ := HC8.out w6 _ hst6
          clear hst6 HST2
          go_wp2_with fail
          go_region_held3 (fun w' => w'.cell? ⟨b12, 0, none⟩ = some (.int .i64 p1) ∧ w'.cell? ⟨b12, 1, none⟩ = some (.int .i64 p2) ∧ w'.cell? ⟨b12, 2, none⟩ = some (.int .i64 p3) ∧ w'.cell? ⟨B8, 0, none⟩ = some (.int .i64 r2) ∧ w'.cell? ⟨B8, 1, none⟩ = some (.int .i64 65536)) (first | go_keep | exact hkeep) (first
            | (go_at_call 56; refine (Stp.add hst3.out (by omega) x3 y3 p3 hps).mono ?_; rintro e w4 ⟨rfl, hst4'⟩; have hst4 := mkH hst4'; have hkeep := (by exact HC8.out w4 _ hst4'); clear hst4')
            | (go_at_call 76; refine (hm3 _).mono ?_; rintro e w3 ⟨rfl, hg3⟩; have hst3 := mkH ((HST3.out.below (Below.refl _ _).drew).below hg3.below); have hkeep := (by exact HC8.out w3 _ hst3.out); clear hg3))
          all_goals
            clear a0 a1 a2 e0 e1
            have HF4 := hst4
            clear hst4 HST3
            go_wp2
            go_roundw
            case rel =>
              obtain ⟨ao9, cap9, M9, z9, g1, g2, g3, g4⟩ := HF4.out
              have hnr : ∀ k, k < n → ¬ (k = n + 1 ∨ k = n + 2 ∨ rb aM k) := fun k hk hq => by
                rcases hq with e | e | e
                · omega
                · omega
                · exact HRBo.out k hk e
              refine ⟨k + 1, by omega, by go_num, ao9, cap9, M9, z9, mkH g1, mkH ?_, mkH (J7.out.fr g3 (hnr _ hl7)), mkH (J8.out.fr g3 (hnr _ hl8)), mkH (J4.out.fr g3 (hnr _ hl4)), mkH (HBA.out.trans (g3.below (fun k hk => ?_) HBA.out.size))⟩
              · rw [HMV.out]; exact g2
              · rcases hk with e | e | e
                · omega
                · omega
                · exact Nat.le_of_not_lt (fun hlt => HRBo.out k (by omega) e)
            case measure => simp [intOf]; omega
      · have : k = ps.length := by omega
        subst this
        rw [List.take_length] at HS
        have hlm : (mv (r1, r2) tg [] ps).length ≤ 1000000 := by have := mv_len (r1, r2) tg ps []; simp at this; omega
        have HA := mkH (all_any wr n aM cM M z _ HG.out HS.out hlm)
        have hsz := HG.out.lt
        clear HR
        go_wp2_with fail
        refine HA.out.mono ?_
        rintro e w3 ⟨a3, c3, rfl, ho3, hf3, hl3⟩
        have HO3 : Hid (OwP w3 w.heap.size a3 c3 (mv (r1, r2) tg [] ps)) := mkH ⟨own_mono ho3 (by omega)⟩
        have HB3 := mkH (HB.out.trans (hf3.below (fun k hk => by have := HG.out.row k hk; omega) HB.out.size))
        clear ho3 hf3 hl3
        go_wp2
        go_ret
        exact ⟨a3, c3, rfl, HO3.out, HB3.out⟩
end Go.Proofs.YtcpmcfagibmboabGreat.Cd
