/-
  delivery, Delete, Change.
-/
import Derived.Test.YtcpmaddleleblaaDoorGpG
namespace Go.Proofs.YtcpmaddleleblaaDoor.Gi
open Go.RowKit Kt Gf Gp Gr Gk Ga Gs Gb Ge Gg
set_option linter.unusedVariables false
set_option linter.unusedSimpArgs false
set_option maxRecDepth 20000

set_option maxHeartbeats 4000000 in
theorem delivery_any (w : World) (g : G) (ka : Option Addr) (kc : Nat) (ma : Option Addr) (mc : Nat) (h : Gl w g ka kc ma mc) (hk : g.kept.length ≤ 100000000) (now seq cnt : Int) (p : Nat) (E : Int) (hp : (about g now seq cnt) = (p, E)) :
    Calls Tryd.prog 64 #[.agg (gC g ka kc ma mc), .int .i64 now, .int .i64 seq, .int .i64 cnt] w fun e w' => e = .returned (.tuple #[.int .i64 (p : Int), .int .i64 E]) ∧ Below w.heap.size w w' := by
  have HL := mkH h
  have HP := mkH hp
  clear h hp
  obtain ⟨nx, kp, mk, at'⟩ := g
  simp only [gC] at hk ⊢
  have HA := mkH (((Below.refl w.heap.size w).alloc (Nat.le_refl _) (.cells #[Value.int .i64 nx, .slice ka kp.length kc, .slice ma mk.length mc, .string at'] 25)).alloc (by simp) (.cells #[.int .i64 seq] 3))
  have HC0 := mkH ((Bx.new w #[Value.int .i64 nx, .slice ka kp.length kc, .slice ma mk.length mc, .string at'] 25).alloc (.cells #[.int .i64 seq] 3))
  have HC1 := mkH (Bx.new1 w (.cells #[Value.int .i64 nx, .slice ka kp.length kc, .slice ma mk.length mc, .string at'] 25) #[.int .i64 seq] 3)
  go_enter Tryd.func64, Tryd.ntmps64
  go_wp2_with fail
  generalize (w.alloc (.cells #[Value.int .i64 nx, .slice ka kp.length kc, .slice ma mk.length mc, .string at'] 25)).alloc (.cells #[.int .i64 seq] 3) = w0 at *
  refine (idxDel w0 ka kc kp (HL.out.k.below HA.out) (by omega) (fun m => m.seq == seq) (w.heap.size + 1) (fun W x hb hx => delivery1_any W x (w.heap.size + 1) seq ((HC1.out.bel hb).cell 0 _ rfl))).mono ?_
  rintro e w1 ⟨rfl, hb1⟩
  have HB1 : Hid (Below w.heap.size w w1) := HA.out.trans (hb1.mono HA.out.size)
  obtain ⟨m0, m1, m2, m3, -⟩ := (HC0.out.bel hb1).four
  have hrow := HL.out.k.below HB1.out
  clear hb1 HC0 HC1 HA
  rcases idx_spec (fun m : K => m.seq == seq) kp with ⟨he, -⟩ | ⟨i0, x, he, hx, hp0, -⟩
  · have hie : idxI (fun m : K => m.seq == seq) kp = -1 := by unfold idxI; rw [he]
    have hq : about ⟨nx, kp, mk, at'⟩ now seq cnt = (0, 8) := by unfold about; rw [he]
    rw [HP.out] at hq
    simp only [Prod.mk.injEq] at hq
    obtain ⟨rfl, rfl⟩ := hq
    rw [hie]
    clear he hie hrow HP
    go_wp2
    go_ret2
    exact ⟨rfl, HB1⟩
  · have hie : idxI (fun m : K => m.seq == seq) kp = (i0 : Int) := by unfold idxI; rw [he]
    have hq : about ⟨nx, kp, mk, at'⟩ now seq cnt = if x.cnt ≠ cnt then (0, 12) else if fly now x then (i0, 0) else (0, 13) := by unfold about; rw [he]; simp only; rw [hx]
    rw [HP.out] at hq
    have hil := lt_of hx
    obtain ⟨b, off, rfl, z0, z1, z2, z3, z4, z5⟩ := atK hrow hx
    rw [hie]
    obtain ⟨fl, hfl⟩ : ∃ t, fly now x = t := ⟨_, rfl⟩
    have HI := mkH (inFlight_any w1 x now)
    rw [hfl] at HI
    rw [hfl] at hq
    obtain ⟨x0, x1, x2, x3, x4, x5⟩ := x
    simp only [kC] at HI z0 z1 z2 z3 z4 z5
    simp only at hq
    clear he hie hrow HP hx hp0 hfl
    by_cases hc : x2 = cnt
    · rw [if_neg (by simpa using hc)] at hq
      subst hc
      cases fl with
      | true =>
        simp only [if_true, Prod.mk.injEq] at hq
        obtain ⟨rfl, rfl⟩ := hq
        go_wp2_with fail
        refine HI.out.mono ?_
        rintro e w2 ⟨rfl, hb2⟩
        have HB2 : Hid (Below w.heap.size w w2) := HB1.out.trans (hb2.mono HB1.out.size)
        clear hb2 HI
        go_wp2
        go_ret2
        exact ⟨rfl, HB2⟩
      | false =>
        simp only [Bool.false_eq_true, if_false, Prod.mk.injEq] at hq
        obtain ⟨rfl, rfl⟩ := hq
        go_wp2_with fail
        refine HI.out.mono ?_
        rintro e w2 ⟨rfl, hb2⟩
        have HB2 : Hid (Below w.heap.size w w2) := HB1.out.trans (hb2.mono HB1.out.size)
        clear hb2 HI
        go_wp2
        go_ret2
        exact ⟨rfl, HB2⟩
    · rw [if_pos (by simpa using hc)] at hq
      simp only [Prod.mk.injEq] at hq
      obtain ⟨rfl, rfl⟩ := hq
      have t1 : (x2 == cnt) = false := by simpa using hc
      have t2 : (x2 != cnt) = true := by simp [bne, t1]
      go_wp2
      go_ret2
      exact ⟨rfl, HB1⟩

theorem about_in (g : G) (now seq cnt : Int) : (about g now seq cnt).2 = 0 ∧ (about g now seq cnt).1 < g.kept.length ∨ (about g now seq cnt).2 = 8 ∨ (about g now seq cnt).2 = 12 ∨ (about g now seq cnt).2 = 13 := by
  unfold about
  rcases idx_spec (fun m : K => m.seq == seq) g.kept with ⟨he, -⟩ | ⟨i0, x, he, hx, hp0, -⟩
  · rw [he]; exact .inr (.inl rfl)
  · rw [he]
    simp only
    rw [hx]
    simp only
    split
    · exact .inr (.inr (.inl rfl))
    · split
      · exact .inl ⟨rfl, lt_of hx⟩
      · exact .inr (.inr (.inr rfl))
end Go.Proofs.YtcpmaddleleblaaDoor.Gi
