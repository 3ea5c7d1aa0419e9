/-
  ChTx ChRl, joined by mrg.py.
-/
import Derived.Test.YtcpmcfagibmboaaRqF
import Derived.Deep.QuietTactic
import Derived.BigQuiet
import Derived.Test.YtcpmcfagibmboaaRgG

namespace Go.Proofs.Ytcpmcfagibmboaa.Tx
open Go.RowKit Kt Pl
open At (RowT)
set_option linter.unusedVariables false

set_option maxHeartbeats 1000000 in
set_option maxRecDepth 20000 in
theorem same_any (w : World) (a1 a2 : Option Addr) (c1 c2 : Nat) (l : List (List UInt8)) (h1 : RowT w a1 l) (h2 : RowT w a2 l) (hl : l.length ≤ 1000000) :
    Calls Try.prog 20 #[.slice a1 l.length c1, .slice a2 l.length c2] w fun e w' => e = .returned (.bool true) ∧ ∃ n, w' = w.drewN n := by
  go_enter Try.func20, Try.ntmps20
  go_wp2
  go_loopw [5] (fun ct wr => ∃ k n : Nat, k ≤ l.length ∧ ct = .int .i64 k ∧ wr = w.drewN n) (fun ct _ => l.length - (intOf ct).toNat)
  case atStart => exact ⟨0, 0, Nat.zero_le _, rfl, rfl⟩
  case round =>
    obtain ⟨k, n, hk, rfl, rfl⟩ := hrel
    by_cases hlt : k < l.length
    · obtain ⟨b1, o1, rfl, hc1⟩ := h1 (by omega)
      obtain ⟨b2, o2, rfl, hc2⟩ := h2 (by omega)
      have hd1 := hc1 k hlt
      have hd2 := hc2 k hlt
      obtain ⟨s, hs⟩ : ∃ s, S (l.getD k []) = s := ⟨_, rfl⟩
      rw [hs] at hd1 hd2
      have hi : (k : Int) < (l.length : Int) := by omega
      have hi0 : (0 : Int) ≤ (k : Int) := by omega
      clear hs hc1 hc2 h1 h2
      go_wp2_with fail
      go_quiet (fail)
      go_wp2
      go_roundw
      case rel => exact ⟨k + 1, _, by omega, by go_num, rfl⟩
      case measure => simp [intOf]; omega
    · go_wp2
      go_ret
      exact ⟨rfl, n, rfl⟩

theorem info_S : (Try.prog.info? 9).map (fun i => (i.zero, i.size, i.bytes)) = some (some (.string ⟨#[]⟩), 1, 16) := by kernel_rfl
theorem srcT {w : World} {ao : Option Addr} {l : List (List UInt8)} (h : RowT w ao l) (c : Nat) : Src Try.prog 1 39 (.slice ao l.length c) l.length (T l) w := by
  by_cases h0 : 0 < l.length
  · obtain ⟨b, off, rfl, hc⟩ := h h0
    refine Src.ofSlice w Try.underlying39 _ _ c _ (by rw [T_length]; omega) (fun j u hj => ?_) (fun u hu => ?_)
    · have hj1 : j < l.length := by have := Nr.lt_of hj; rwa [T_length] at this
      rw [Addr.add_lit, hc j hj1]
      simp only [T, List.getElem?_map, List.getElem?_eq_getElem hj1, Option.map_some] at hj
      rw [← hj]
      simp [List.getD, List.getElem?_eq_getElem hj1]
    · simp only [T, List.mem_map] at hu
      obtain ⟨s, -, rfl⟩ := hu
      rfl
  · have e : l = [] := List.eq_nil_of_length_eq_zero (by omega)
    subst e
    cases ao with
    | none => exact Src.ofNil w Try.underlying39 c
    | some a => exact Src.ofSlice w Try.underlying39 a 0 c [] (by simp) (fun j u hj => by simp at hj) (fun u hu => by cases hu)

/-- The texts as the law cuts them. -/
def cutT (l : List (List UInt8)) (k : Nat) : List (List UInt8) := (l.take k).map fun s => s.take 500
theorem cutT_succ {l : List (List UInt8)} {k : Nat} {s : List UInt8} (h : l[k]? = some s) : cutT l (k + 1) = cutT l k ++ [s.take 500] := by
  obtain ⟨hk, rfl⟩ := List.getElem?_eq_some_iff.1 h
  unfold cutT
  rw [List.take_succ_eq_append_getElem hk, List.map_append]
  rfl
theorem cutT_len {l : List (List UInt8)} {k : Nat} (h : k ≤ l.length) : (cutT l k).length = k := by unfold cutT; simp; omega
theorem cutT_mem {l : List (List UInt8)} {k : Nat} : ∀ x ∈ cutT l k, x.length ≤ 1000 := by
  intro x hx
  obtain ⟨y, _, rfl⟩ := List.mem_map.1 hx
  rw [List.length_take]; omega
theorem T_append (a b : List (List UInt8)) : T (a ++ b) = T a ++ T b := by simp [T]
theorem rowT_new (w : World) (a : List UInt8) (t : TypeId) : RowT (w.alloc (.cells #[.string (S a)] t)) (some ⟨w.heap.size, 0, none⟩) [a] := by
  intro _
  have h : Gk.Bx (w.alloc (.cells #[.string (S a)] t)) w.heap.size #[.string (S a)] t := Gk.Bx.new _ _ _
  refine ⟨w.heap.size, 0, rfl, fun i hi => ?_⟩
  have h3 : i < 1 := hi
  obtain rfl : i = 0 := by omega
  exact h.cell 0 _ rfl
end Go.Proofs.Ytcpmcfagibmboaa.Tx

namespace Go.Proofs.Ytcpmcfagibmboaa.Rl
open Go.RowKit Go.Shelf Pl Gf Gk Ct Cu La Mp Cl Ma Cp Mn Me Rd Ch
open Cr hiding some_of
open Kt
open At (RowT)
open Rs (GoodS)
open Mr (GoodM RvP)
open Ms (RvQ)
open Mq (dmp)
set_option linter.unusedVariables false
set_option linter.unusedSimpArgs false
set_option maxRecDepth 20000

theorem goodM_inj {l : List (List UInt8)} (hl : ∀ t ∈ l, t.length ≤ 1000) {s e s' e' : Int} {ps ps' : List Pc} {D D' : List Dd} (h : GoodM l s e ps D) (g : GoodM l s' e' ps' D') : s' = s ∧ e' = e ∧ ps' = ps ∧ D' = D := by
  obtain ⟨t0, t1, t2, rfl, h0, h1, h2⟩ := h
  obtain ⟨a0, a1, a2, he, g0, g1, g2⟩ := g
  cases he
  have hn := h1.nums (hl t1 (by simp))
  obtain ⟨e1, e2⟩ := Ld.good_only (hl t1 (by simp)) hn g1
  rw [Ld.pcs_flat] at e2
  exact ⟨h0.inj g0, e1, e2, h2.inj g2⟩
theorem S_take (s : List UInt8) (n : Nat) : (S s).extract 0 n = S (s.take n) := by
  apply ByteArray.ext
  simp [S, ByteArray.data_extract]
theorem take_min (t : List UInt8) (n : Nat) (h : n = min t.length 500) : t.take n = t.take 500 := by
  rw [h]
  rcases Nat.le_total t.length 500 with h1 | h1
  · rw [Nat.min_eq_left h1, List.take_of_length_le (Nat.le_refl _), List.take_of_length_le h1]
  · rw [Nat.min_eq_right h1]

set_option maxRecDepth 100000 in
set_option maxHeartbeats 8000000 in
theorem revives_walk (w : World) (al : Option Addr) (cl : Nat) (l : List (List UInt8)) (hr : RowT w al l) (hlc : l.length ≤ cl) (hcl : cl ≤ 9223372036854775807) :
    Calls Try.prog 5 #[.slice al l.length cl] w fun e w' => e = .returned (.bool true) ∧ Below w.heap.size w w' := by
  have hmx : Try.prog.follows .mixedOrders = true := by kernel_rfl
  have HR := mkH hr
  clear hr
  go_enter Try.func5, Try.ntmps5
  go_wp2_with fail
  go_loopw [3, 4] (fun v i wr => ∃ k : Nat, k ≤ l.length ∧ k ≤ 5 ∧ i = .int .i64 k ∧ Hid (wr.ownsRow w.heap.size 9 1 v k (T (Tx.cutT l k))) ∧ Hid (Below w.heap.size w wr)) (fun _ i _ => l.length - (intOf i).toNat)
  case atStart => exact ⟨0, Nat.zero_le _, by omega, rfl, mkH ⟨by simp [Tx.cutT, T], .inl ⟨rfl, rfl⟩⟩, mkH (Below.refl _ _)⟩
  case round =>
    obtain ⟨k, hk, hk5, rfl, HO, HB⟩ := hrel
    have hwz := HB.out.size
    by_cases hin : k < l.length ∧ k < 5
    · obtain ⟨hlt, hlt5⟩ := hin
      obtain ⟨t, ht⟩ := Nr.some_of hlt
      obtain ⟨b, o, rfl, hc⟩ := HR.out (by omega)
      have hc0 := hc k hlt
      rw [show l.getD k [] = t by simp [List.getD, ht]] at hc0
      have hblt := World.block_lt_of_cell? w _ hc0
      have HCC : Hid (∀ W, Below w.heap.size w W → W.cell? ⟨b, o + k, none⟩ = some (.string (S t))) := mkH (fun W hb => (hb.cell (p := ⟨b, o + k, none⟩) hblt).trans hc0)
      have c0 := HCC.out wr HB.out
      have hi : (k : Int) < (l.length : Int) := by omega
      have hi0 : (0 : Int) ≤ (k : Int) := by omega
      have hi5 : (k : Int) < 5 := by omega
      obtain ⟨q, hq⟩ : ∃ q, q = min t.length 500 := ⟨_, rfl⟩
      have hsz : (S t).size = t.length := rfl
      have he : (S t).extract 0 q = S (t.take 500) := by rw [S_take, take_min t q hq]
      have hm1 : min ((S t).size : Int) 500 = (q : Int) := by rw [hsz, hq]; omega
      have hm2 : (if (500 : Int) < ((S t).size : Int) then (500 : Int) else ((S t).size : Int)) = (q : Int) := by rw [hsz, hq]; split <;> omega
      have hm3 : (if ((S t).size : Int) < 500 then ((S t).size : Int) else 500) = (q : Int) := by rw [hsz, hq]; split <;> omega
      have hnl : q ≤ (S t).size := by rw [hsz]; omega
      have hnl2 : (q : Int) ≤ ((S t).size : Int) := by omega
      have HN := mkH (Tx.cutT_succ ht)
      obtain ⟨av, cv, rfl⟩ := own_form HO.out
      obtain ⟨v, hv⟩ : ∃ v, v = Value.slice av k cv := ⟨_, rfl⟩
      rw [← hv] at HO ⊢
      clear hq hsz ht hc hc0 hv
      go_wp2_with fail
      refine Rg.region_G hmx 13 (fun W => W.cell? ⟨b, o + k, none⟩ = some (.string (S t))) (by simpa using c0) (fun hHeld => ?_)
      have HLV := mkH (own_below HO.out (Below.refl _ _).drew)
      have HVV : Hid (Below w.heap.size w wr.drew) := mkH HB.out.drew
      have hzV : wr.heap.size ≤ wr.drew.heap.size := by simp
      generalize wr.drew = V0 at *
      refine Rg.anyG_pure (i := 0) (oi := { dst := some 21, op := _, type := _, pos := _, after := _, guard := _ }) (v := ?_) rfl (by kernel_rfl) (by kernel_rfl) (by kernel_rfl) (by rfl) (fun _ _ _ h => h) (Or.inl ⟨by rfl, ?_⟩) (fun _ => by assumption) ?_
      rotate_left
      · (intro W hSw; (try dsimp only at hSw); go_simp; try (with_reducible rfl))
      try simp only [Act.put, List.setIfInBounds_toArray, List.set_cons_zero, List.set_cons_succ]
      refine Rg.anyG_pure (i := 1) (oi := { dst := some 22, op := _, type := _, pos := _, after := _, guard := _ }) (v := ?_) rfl (by kernel_rfl) (by kernel_rfl) (by kernel_rfl) (by rfl) (fun _ _ _ h => h) (Or.inl ⟨by rfl, ?_⟩) (fun _ => by assumption) ?_
      rotate_left
      · (intro W hSw; (try dsimp only at hSw); go_simp; try (with_reducible rfl))
      try simp only [Act.put, List.setIfInBounds_toArray, List.set_cons_zero, List.set_cons_succ]
      refine Rg.anyG_pure (i := 2) (oi := { dst := some 23, op := _, type := _, pos := _, after := _, guard := _ }) (v := ?_) rfl (by kernel_rfl) (by kernel_rfl) (by kernel_rfl) (by rfl) (fun _ _ _ h => h) (Or.inl ⟨by rfl, ?_⟩) (fun _ => by assumption) ?_
      rotate_left
      · (intro W hSw; (try dsimp only at hSw); go_simp; try (with_reducible rfl))
      try simp only [Act.put, List.setIfInBounds_toArray, List.set_cons_zero, List.set_cons_succ]
      refine Rg.anyG_pure (i := 3) (oi := { dst := some 24, op := _, type := _, pos := _, after := _, guard := _ }) (v := ?_) rfl (by kernel_rfl) (by kernel_rfl) (by kernel_rfl) (by rfl) (fun _ _ _ h => h) (Or.inl ⟨by rfl, ?_⟩) (fun _ => by assumption) ?_
      rotate_left
      · (intro W hSw; (try dsimp only at hSw); go_simp; try (with_reducible rfl))
      try simp only [Act.put, List.setIfInBounds_toArray, List.set_cons_zero, List.set_cons_succ]
      refine Rg.anyG_take (i := 4) (oi := { dst := some 25, op := _, type := _, pos := _, after := _, guard := _ }) (v := ?_) rfl (by kernel_rfl) (by kernel_rfl) (by kernel_rfl) [11, 12, 13] (by kernel_rfl) (fun _ _ _ h => h) (Or.inl ⟨by rfl, ?_⟩) (by assumption) ?_
      rotate_left
      · (intro W hSw; (try dsimp only at hSw); go_simp; try (with_reducible rfl))
      try simp only [Act.put, List.setIfInBounds_toArray, List.set_cons_zero, List.set_cons_succ]
      refine Rg.anyG_pure (i := 5) (oi := { dst := some 26, op := _, type := _, pos := _, after := _, guard := _ }) (v := ?_) rfl (by kernel_rfl) (by kernel_rfl) (by kernel_rfl) (by rfl) (fun _ _ _ h => h) (Or.inl ⟨by rfl, ?_⟩) (fun _ => by assumption) ?_
      rotate_left
      · (intro W hSw; (try dsimp only at hSw); go_simp; try (with_reducible rfl))
      try simp only [Act.put, List.setIfInBounds_toArray, List.set_cons_zero, List.set_cons_succ]
      refine Rg.anyG_pure (i := 6) (oi := { dst := some 27, op := _, type := _, pos := _, after := _, guard := _ }) (v := ?_) rfl (by kernel_rfl) (by kernel_rfl) (by kernel_rfl) (by rfl) (fun _ _ _ h => h) (Or.inl ⟨by rfl, ?_⟩) (fun _ => by assumption) ?_
      rotate_left
      · (intro W hSw; (try dsimp only at hSw); go_simp; try (with_reducible rfl))
      try simp only [Act.put, List.setIfInBounds_toArray, List.set_cons_zero, List.set_cons_succ]
      refine Rg.anyG_pure (i := 7) (oi := { dst := some 28, op := _, type := _, pos := _, after := _, guard := _ }) (v := ?_) rfl (by kernel_rfl) (by kernel_rfl) (by kernel_rfl) (by rfl) (fun _ _ _ h => h) (Or.inl ⟨by rfl, ?_⟩) (fun _ => by assumption) ?_
      rotate_left
      · (intro W hSw; (try dsimp only at hSw); go_simp; try (with_reducible rfl))
      try simp only [Act.put, List.setIfInBounds_toArray, List.set_cons_zero, List.set_cons_succ]
      refine Rg.anyG_take (i := 8) (oi := { dst := some 29, op := _, type := _, pos := _, after := _, guard := _ }) (v := ?_) rfl (by kernel_rfl) (by kernel_rfl) (by kernel_rfl) [9, 10, 11, 12, 13] (by kernel_rfl) (fun _ _ _ h => h) (Or.inl ⟨by rfl, ?_⟩) (by assumption) ?_
      rotate_left
      · (intro W hSw; (try dsimp only at hSw); go_simp; try (with_reducible rfl))
      try simp only [Act.put, List.setIfInBounds_toArray, List.set_cons_zero, List.set_cons_succ]
      refine Rg.anyG_pure (i := 9) (oi := { dst := some 30, op := _, type := _, pos := _, after := _, guard := _ }) (v := ?_) rfl (by kernel_rfl) (by kernel_rfl) (by kernel_rfl) (by rfl) (fun _ _ _ h => h) (Or.inl ⟨by rfl, ?_⟩) (fun _ => by assumption) ?_
      rotate_left
      · (intro W hSw; (try dsimp only at hSw); go_simp; try (with_reducible rfl))
      try simp only [Act.put, List.setIfInBounds_toArray, List.set_cons_zero, List.set_cons_succ]
      refine Rg.anyG_pure (i := 10) (oi := { dst := some 31, op := _, type := _, pos := _, after := _, guard := _ }) (v := .int .i64 (q : Int)) rfl (by kernel_rfl) (by kernel_rfl) (by kernel_rfl) (by rfl) (fun _ _ _ h => h) (Or.inl ⟨by rfl, ?_⟩) (fun _ => by assumption) ?_
      · (intro W hSw; (try dsimp only at hSw); go_simp; try (with_reducible rfl))
      try simp only [Act.put, List.setIfInBounds_toArray, List.set_cons_zero, List.set_cons_succ]
      refine Rg.anyG_pure (i := 11) (oi := { dst := some 32, op := _, type := _, pos := _, after := _, guard := _ }) (v := .string (S (t.take 500))) rfl (by kernel_rfl) (by kernel_rfl) (by kernel_rfl) (by rfl) (fun _ _ _ h => h) (Or.inl ⟨by rfl, ?_⟩) (fun _ => by assumption) ?_
      · (intro W hSw; (try dsimp only at hSw); go_simp; try (with_reducible rfl))
      try simp only [Act.put, List.setIfInBounds_toArray, List.set_cons_zero, List.set_cons_succ]
      refine Rg.anyG_ready (rs := [12]) (by kernel_rfl) (by simp) ?_
      refine (Rg.AllG.cons (o := { dst := some 33, op := _, type := _, pos := _, after := _, guard := _ }) rfl (fun K hK => ?_) Rg.AllG.nil)
      have hal : Below V0.heap.size V0 (V0.alloc (.cells #[.string (S (t.take 500))] 9)) := (Below.refl _ _).alloc (Nat.le_refl _) _
      have HLA := mkH (own_below HLV.out hal)
      have HVA := mkH (HVV.out.trans (hal.mono HVV.out.size))
      have HSR := mkH (Tx.srcT (Tx.rowT_new V0 (t.take 500) 9) 1)
      have q0 : (V0.alloc (.cells #[.string (S (t.take 500))] 9)).cell? ⟨b, o + k, none⟩ = some (.string (S t)) := HCC.out _ HVA.out
      go_simp
      refine hK.out _ _ ?_ (fun hHeld => ?_)
      · exact q0
      clear hK K
      try simp only [Act.put, List.setIfInBounds_toArray, List.set_cons_zero, List.set_cons_succ]
      clear hal q0
      refine Rg.anyG_ready (rs := [13]) (by kernel_rfl) (by simp) ?_
      refine Rg.AllG.last (o := { dst := some 34, op := _, type := _, pos := _, after := _, guard := _ }) rfl (by kernel_rfl) (fun K hK => ?_)
      refine step_append_own_src (by rfl) (.tmp 21) (.tmp 33) 39 39 (by rfl) w.heap.size 9 (.string ⟨#[]⟩) 1 16 Try.underlying39 Tx.info_S (by rfl) (by decide) v k (T (Tx.cutT l k)) (by rfl) (by exact HLA.out) (.slice (some ⟨V0.heap.size, 0, none⟩) 1 1) 1 (T [t.take 500]) (by rfl) (by exact HSR.out) (by unfold maxLen; omega) (by omega) (by have := HVA.out.size; omega) ?_
      intro v2 w8 hown2 hgrow2
      refine hK.out _ _ ?_
      clear hK K
      try simp only [Act.put, List.setIfInBounds_toArray, List.set_cons_zero, List.set_cons_succ]
      refine Rg.anyG_pure (i := 14) (oi := { dst := some 3, op := _, type := _, pos := _, after := _, guard := _ }) (v := ?_) rfl (by kernel_rfl) (by kernel_rfl) (by kernel_rfl) (by rfl) (fun _ _ _ h => h) (Or.inl ⟨by rfl, ?_⟩) (fun h => absurd (h.symm.trans (show _ = true by kernel_rfl)) Bool.false_ne_true) ?_
      rotate_left
      · (intro W hSw; (try dsimp only at hSw); go_simp; try (with_reducible rfl))
      try simp only [Act.put, List.setIfInBounds_toArray, List.set_cons_zero, List.set_cons_succ]
      refine Rg.anyG_done (by kernel_rfl) ?_ _
      have hb8 := below_own HLA.out hgrow2 HVA.out HVA.out.size
      have HO8 : Hid (w8.ownsRow w.heap.size 9 1 v2 (k + 1) (T (Tx.cutT l (k + 1)))) := mkH (by rw [HN.out, Tx.T_append]; exact hown2)
      have HB8 := mkH hb8
      go_wp2
      go_roundw
      case rel => exact ⟨k + 1, by omega, by omega, by go_num, HO8, HB8⟩
      case measure => simp [intOf]; omega
    · have hkm : k = l.length ∨ k = 5 := by omega
      obtain ⟨ds, hds⟩ : ∃ ds, ds = Tx.cutT l k := ⟨_, rfl⟩
      have hmem : ∀ t ∈ ds, t.length ≤ 1000 := by rw [hds]; exact Tx.cutT_mem
      have hdl : ds.length = k := by rw [hds]; exact Tx.cutT_len hk
      rw [← hds] at HO
      obtain ⟨av, cv, rfl⟩ := own_form HO.out
      have hrow := (At.RowT.own HO.out).2.2
      have HRV := mkH (Mr.revive_any wr av cv ds hrow hmem (by omega))
      have HRW := mkH hrow
      have HME := mkH hmem
      rw [hdl] at HRV
      have HRR := mkH (fun W (hb : Below wr.heap.size wr W) => Ms.rrevive_any W av cv ds (hrow.below hb) hmem (by omega))
      rw [hdl] at HRR
      clear hds hmem hdl hrow HO
      have hi : ((k : Int) < (l.length : Int) → ¬ (k : Int) < 5) := by omega
      rcases Nat.lt_or_ge k l.length with hkl | hkl
      · have hi1 : (k : Int) < (l.length : Int) := by omega
        have hi2 : ¬ (k : Int) < 5 := by omega
        clear hi hin hkm
        go_wp2_with fail
        refine HRV.out.mono ?_
        rintro x w2 ⟨hb2, ⟨s, e, ps, D, bm, mm, hg, hpl, rfl, hmk, hbm, hmm⟩ | ⟨hg, rfl⟩⟩
        · have HB2 := mkH hb2
          have HG := mkH hg
          have HMK := mkH hmk
          clear hb2 hg hmk HRV
          go_wp2_with fail
          refine (HRR.out w2 HB2.out).mono ?_
          rintro x w3 ⟨hb3, ⟨s', e', ps', D', R, hg', -, rfl, hrm, hR⟩ | ⟨hg', rfl⟩⟩
          · obtain ⟨rfl, rfl, rfl, rfl⟩ := goodM_inj HME.out HG.out hg'
            have HMK3 := mkH (HMK.out.below hb3)
            have HRM := mkH hrm
            have HB3 := mkH (HB.out.trans ((HB2.out.trans (hb3.mono HB2.out.size)).mono HB.out.size))
            obtain ⟨t0, t1, t2, -, gS, gC, gD⟩ := hg'
            have hmy := gC.1
            have hs := gS.1.2 s' (by simp)
            have hDl := gD.2.2.2
            have hDo : ∀ x ∈ D', okN x.1 ∧ okN x.2 := fun x hx => ⟨gD.1.2 _ (List.mem_flatMap.2 ⟨x, hx, by simp [n2]⟩), gD.1.2 _ (List.mem_flatMap.2 ⟨x, hx, by simp [n2]⟩)⟩
            have HDU := mkH (Mq.mdump_any HMK3.out (by omega) hmy hs ⟨gD.2.1, by omega, hDo⟩)
            have HRD := mkH (fun W (hb : Below w3.heap.size w3 W) => rmdump_any (HRM.out.below hb) (by omega) hmy hs ⟨by omega, hDo⟩)
            clear hb3 hrm HMK HG HB2 HB hmy hs hDl hDo gS gC gD HRR
            go_wp2_with fail
            refine HDU.out.mono ?_
            rintro x w4 ⟨a9, c9, rfl, hr9, hb4⟩
            have HR9 := mkH hr9
            have HB4 := mkH hb4
            clear hr9 hb4 HDU
            obtain ⟨ar, cr, ka, kc, q1, q2, q3⟩ := HRM.out.below HB4.out
            have HC : Hid (∀ W, Below w4.heap.size w4 W → W.cell? ⟨R, 0, none⟩ = some (.int .i64 e') ∧ W.cell? ⟨R, 1, none⟩ = some (.slice ar ps'.length cr) ∧ W.cell? ⟨R, 2, none⟩ = some (.int .i64 s')) := mkH (fun W hb => ⟨(q1.bel hb).cell 0 _ rfl, (q1.bel hb).cell 1 _ rfl, (q1.bel hb).cell 2 _ rfl⟩)
            have HQ2 := mkH q2
            have hp4 : ps'.length ≤ 100000 := by omega
            have HB6 := mkH (HB3.out.trans (HB4.out.mono HB3.out.size))
            have H1 : Hid (∀ W, Below w4.heap.size w4 W → Calls Try.prog 18 #[.pointer (some ⟨bm, 0, none⟩)] W fun z w' => z = .returned (.int .i64 s') ∧ Below w4.heap.size w4 w') := mkH (fun W hb => (slots_any (HMK3.out.below (HB4.out.trans (hb.mono HB4.out.size)))).mono (fun z w' ⟨h1, h2⟩ => ⟨h1, by rw [h2]; exact hb⟩))
            have H2 : Hid (∀ W, Below w4.heap.size w4 W → Calls Try.prog 19 #[.pointer (some ⟨bm, 0, none⟩)] W fun z w' => ∃ a c, z = .returned (.agg #[.int .i64 e', .slice a ps'.length c]) ∧ RdP w' a c ps' ∧ Below w4.heap.size w4 w') := mkH (fun W hb => (chart_any (HMK3.out.below (HB4.out.trans (hb.mono HB4.out.size))) hp4).mono (fun z w' ⟨a, c, h1, h2, h3⟩ => ⟨a, c, h1, h2, hb.trans (h3.mono hb.size)⟩))
            have H3 : Hid (∀ W a c, Below w4.heap.size w4 W → RdP W a c ps' → Calls Try.prog 10 #[.agg #[.int .i64 e', .slice a ps'.length c], .agg #[.int .i64 e', .slice ar ps'.length cr]] W fun z w' => z = .returned (.bool true) ∧ Below w4.heap.size w4 w') := mkH (fun W a c hb h => (rsame_any W e' e' a ar c cr ps' ps' h (HQ2.out.below hb)).mono (fun z w' ⟨h1, h2⟩ => ⟨by rw [h1, decide_eq_true ⟨rfl, rfl⟩], hb.trans (h2.mono hb.size)⟩))
            have H4 : Hid (∀ W, Below w4.heap.size w4 W → Calls Try.prog 21 #[.pointer (some ⟨R, 0, none⟩)] W fun z w' => ∃ a c, z = .returned (.slice a 3 c) ∧ RowT w' a (dmp e' ps' s' D') ∧ Below w4.heap.size w4 w') := mkH (fun W hb => (HRD.out W (HB4.out.trans (hb.mono HB4.out.size))).mono (fun z w' ⟨a, c, h1, h2, h3⟩ => ⟨a, c, h1, h2, hb.trans (h3.mono hb.size)⟩))
            have H5 : Hid (∀ W a c, Below w4.heap.size w4 W → RowT W a (dmp e' ps' s' D') → Calls Try.prog 20 #[.slice a9 3 c9, .slice a 3 c] W fun z w' => z = .returned (.bool true) ∧ Below w4.heap.size w4 w') := mkH (fun W a c hb h => (Tx.same_any W a9 a c9 c (dmp e' ps' s' D') (HR9.out.below hb) h (by simp [dmp])).mono (fun z w' ⟨h1, n, h2⟩ => ⟨h1, by rw [h2]; exact Gf.below_drewN hb n⟩))
            have H6 : Hid (∀ W, Below w4.heap.size w4 W → Calls Try.prog 12 #[] W fun z w' => z = .returned (.bool true) ∧ Below w4.heap.size w4 w') :=
              mkH (fun W hb => (Cw.works_any W).mono (fun z w' ⟨h1, h2⟩ => ⟨h1, hb.trans (h2.mono hb.size)⟩))
            obtain ⟨c0, c1, c2⟩ := HC.out w4 (Below.refl _ _)
            clear HMK3 HRM HRD HQ2 q1 q2 q3 HR9 HB3 HB4
            go_wp2_with fail
            go_region_held3 (fun W => W.cell? ⟨R, 0, none⟩ = some (.int .i64 e') ∧ W.cell? ⟨R, 1, none⟩ = some (.slice ar ps'.length cr) ∧ W.cell? ⟨R, 2, none⟩ = some (.int .i64 s')) (first | go_keep | exact hkeep) (first
              | (go_at_call 12; refine (H6.out _ (by (repeat (first | exact hbX | exact Below.refl _ _ | refine Below.drew ?_ | refine Gf.below_drewN ?_ _)))).mono ?_; rintro z w11 ⟨rfl, hbX⟩; have hkeep := (by exact HC.out w11 hbX))
              | (go_at_call 20; refine (H5.out _ _ _ hbX hrX).mono ?_; rintro z w10 ⟨rfl, hbX⟩; have hkeep := (by exact HC.out w10 hbX))
              | (go_at_call 21; refine (H4.out _ hbX).mono ?_; rintro z w9 ⟨a7, c7, rfl, hrX, hbX⟩; have hkeep := (by exact HC.out w9 hbX))
              | (go_at_call 10; refine (H3.out _ _ _ hbX hrP).mono ?_; rintro z w8 ⟨rfl, hbX⟩; have hkeep := (by exact HC.out w8 hbX))
              | (go_at_call 19; refine (H2.out _ hbX).mono ?_; rintro z w7 ⟨a6, c6, rfl, hrP, hbX⟩; have hkeep := (by exact HC.out w7 hbX))
              | (go_at_call 18; refine (H1.out _ (by (repeat (first | exact Below.refl _ _ | refine Below.drew ?_ | refine Gf.below_drewN ?_ _)))).mono ?_; rintro z w6 ⟨rfl, hbX⟩; have hkeep := (by exact HC.out w6 hbX)))
            all_goals
              go_wp2
              go_ret
              exact ⟨by first | rfl | simp, HB6.out.trans (hbX.mono HB6.out.size)⟩
          · exact absurd ⟨s, e, ps, D, HG.out⟩ hg'
        · have HB2 := mkH hb2
          have HG := mkH hg
          clear hb2 hg HRV
          go_wp2_with fail
          refine (HRR.out w2 HB2.out).mono ?_
          rintro x w3 ⟨hb3, ⟨s', e', ps', D', R, hg', -, rfl, hrm, hR⟩ | ⟨hg', rfl⟩⟩
          · exact absurd ⟨s', e', ps', D', hg'⟩ HG.out
          · have HB3 := mkH (HB.out.trans ((HB2.out.trans (hb3.mono HB2.out.size)).mono HB.out.size))
            clear hb3 hg' HRR
            go_wp2_with fail
            refine (Cw.works_any w3).mono ?_
            rintro z w4 ⟨rfl, hb4⟩
            have HB4 := mkH (HB3.out.trans (hb4.mono HB3.out.size))
            clear hb4
            go_wp2
            go_ret
            exact ⟨by first | rfl | simp, HB4.out⟩
      · have hi1 : ¬ (k : Int) < (l.length : Int) := by omega
        clear hi hin hkm
        go_wp2_with fail
        refine HRV.out.mono ?_
        rintro x w2 ⟨hb2, ⟨s, e, ps, D, bm, mm, hg, hpl, rfl, hmk, hbm, hmm⟩ | ⟨hg, rfl⟩⟩
        · have HB2 := mkH hb2
          have HG := mkH hg
          have HMK := mkH hmk
          clear hb2 hg hmk HRV
          go_wp2_with fail
          refine (HRR.out w2 HB2.out).mono ?_
          rintro x w3 ⟨hb3, ⟨s', e', ps', D', R, hg', -, rfl, hrm, hR⟩ | ⟨hg', rfl⟩⟩
          · obtain ⟨rfl, rfl, rfl, rfl⟩ := goodM_inj HME.out HG.out hg'
            have HMK3 := mkH (HMK.out.below hb3)
            have HRM := mkH hrm
            have HB3 := mkH (HB.out.trans ((HB2.out.trans (hb3.mono HB2.out.size)).mono HB.out.size))
            obtain ⟨t0, t1, t2, -, gS, gC, gD⟩ := hg'
            have hmy := gC.1
            have hs := gS.1.2 s' (by simp)
            have hDl := gD.2.2.2
            have hDo : ∀ x ∈ D', okN x.1 ∧ okN x.2 := fun x hx => ⟨gD.1.2 _ (List.mem_flatMap.2 ⟨x, hx, by simp [n2]⟩), gD.1.2 _ (List.mem_flatMap.2 ⟨x, hx, by simp [n2]⟩)⟩
            have HDU := mkH (Mq.mdump_any HMK3.out (by omega) hmy hs ⟨gD.2.1, by omega, hDo⟩)
            have HRD := mkH (fun W (hb : Below w3.heap.size w3 W) => rmdump_any (HRM.out.below hb) (by omega) hmy hs ⟨by omega, hDo⟩)
            clear hb3 hrm HMK HG HB2 HB hmy hs hDl hDo gS gC gD HRR
            go_wp2_with fail
            refine HDU.out.mono ?_
            rintro x w4 ⟨a9, c9, rfl, hr9, hb4⟩
            have HR9 := mkH hr9
            have HB4 := mkH hb4
            clear hr9 hb4 HDU
            obtain ⟨ar, cr, ka, kc, q1, q2, q3⟩ := HRM.out.below HB4.out
            have HC : Hid (∀ W, Below w4.heap.size w4 W → W.cell? ⟨R, 0, none⟩ = some (.int .i64 e') ∧ W.cell? ⟨R, 1, none⟩ = some (.slice ar ps'.length cr) ∧ W.cell? ⟨R, 2, none⟩ = some (.int .i64 s')) := mkH (fun W hb => ⟨(q1.bel hb).cell 0 _ rfl, (q1.bel hb).cell 1 _ rfl, (q1.bel hb).cell 2 _ rfl⟩)
            have HQ2 := mkH q2
            have hp4 : ps'.length ≤ 100000 := by omega
            have HB6 := mkH (HB3.out.trans (HB4.out.mono HB3.out.size))
            have H1 : Hid (∀ W, Below w4.heap.size w4 W → Calls Try.prog 18 #[.pointer (some ⟨bm, 0, none⟩)] W fun z w' => z = .returned (.int .i64 s') ∧ Below w4.heap.size w4 w') := mkH (fun W hb => (slots_any (HMK3.out.below (HB4.out.trans (hb.mono HB4.out.size)))).mono (fun z w' ⟨h1, h2⟩ => ⟨h1, by rw [h2]; exact hb⟩))
            have H2 : Hid (∀ W, Below w4.heap.size w4 W → Calls Try.prog 19 #[.pointer (some ⟨bm, 0, none⟩)] W fun z w' => ∃ a c, z = .returned (.agg #[.int .i64 e', .slice a ps'.length c]) ∧ RdP w' a c ps' ∧ Below w4.heap.size w4 w') := mkH (fun W hb => (chart_any (HMK3.out.below (HB4.out.trans (hb.mono HB4.out.size))) hp4).mono (fun z w' ⟨a, c, h1, h2, h3⟩ => ⟨a, c, h1, h2, hb.trans (h3.mono hb.size)⟩))
            have H3 : Hid (∀ W a c, Below w4.heap.size w4 W → RdP W a c ps' → Calls Try.prog 10 #[.agg #[.int .i64 e', .slice a ps'.length c], .agg #[.int .i64 e', .slice ar ps'.length cr]] W fun z w' => z = .returned (.bool true) ∧ Below w4.heap.size w4 w') := mkH (fun W a c hb h => (rsame_any W e' e' a ar c cr ps' ps' h (HQ2.out.below hb)).mono (fun z w' ⟨h1, h2⟩ => ⟨by rw [h1, decide_eq_true ⟨rfl, rfl⟩], hb.trans (h2.mono hb.size)⟩))
            have H4 : Hid (∀ W, Below w4.heap.size w4 W → Calls Try.prog 21 #[.pointer (some ⟨R, 0, none⟩)] W fun z w' => ∃ a c, z = .returned (.slice a 3 c) ∧ RowT w' a (dmp e' ps' s' D') ∧ Below w4.heap.size w4 w') := mkH (fun W hb => (HRD.out W (HB4.out.trans (hb.mono HB4.out.size))).mono (fun z w' ⟨a, c, h1, h2, h3⟩ => ⟨a, c, h1, h2, hb.trans (h3.mono hb.size)⟩))
            have H5 : Hid (∀ W a c, Below w4.heap.size w4 W → RowT W a (dmp e' ps' s' D') → Calls Try.prog 20 #[.slice a9 3 c9, .slice a 3 c] W fun z w' => z = .returned (.bool true) ∧ Below w4.heap.size w4 w') := mkH (fun W a c hb h => (Tx.same_any W a9 a c9 c (dmp e' ps' s' D') (HR9.out.below hb) h (by simp [dmp])).mono (fun z w' ⟨h1, n, h2⟩ => ⟨h1, by rw [h2]; exact Gf.below_drewN hb n⟩))
            have H6 : Hid (∀ W, Below w4.heap.size w4 W → Calls Try.prog 12 #[] W fun z w' => z = .returned (.bool true) ∧ Below w4.heap.size w4 w') :=
              mkH (fun W hb => (Cw.works_any W).mono (fun z w' ⟨h1, h2⟩ => ⟨h1, hb.trans (h2.mono hb.size)⟩))
            obtain ⟨c0, c1, c2⟩ := HC.out w4 (Below.refl _ _)
            clear HMK3 HRM HRD HQ2 q1 q2 q3 HR9 HB3 HB4
            go_wp2_with fail
            go_region_held3 (fun W => W.cell? ⟨R, 0, none⟩ = some (.int .i64 e') ∧ W.cell? ⟨R, 1, none⟩ = some (.slice ar ps'.length cr) ∧ W.cell? ⟨R, 2, none⟩ = some (.int .i64 s')) (first | go_keep | exact hkeep) (first
              | (go_at_call 12; refine (H6.out _ (by (repeat (first | exact hbX | exact Below.refl _ _ | refine Below.drew ?_ | refine Gf.below_drewN ?_ _)))).mono ?_; rintro z w11 ⟨rfl, hbX⟩; have hkeep := (by exact HC.out w11 hbX))
              | (go_at_call 20; refine (H5.out _ _ _ hbX hrX).mono ?_; rintro z w10 ⟨rfl, hbX⟩; have hkeep := (by exact HC.out w10 hbX))
              | (go_at_call 21; refine (H4.out _ hbX).mono ?_; rintro z w9 ⟨a7, c7, rfl, hrX, hbX⟩; have hkeep := (by exact HC.out w9 hbX))
              | (go_at_call 10; refine (H3.out _ _ _ hbX hrP).mono ?_; rintro z w8 ⟨rfl, hbX⟩; have hkeep := (by exact HC.out w8 hbX))
              | (go_at_call 19; refine (H2.out _ hbX).mono ?_; rintro z w7 ⟨a6, c6, rfl, hrP, hbX⟩; have hkeep := (by exact HC.out w7 hbX))
              | (go_at_call 18; refine (H1.out _ (by (repeat (first | exact Below.refl _ _ | refine Below.drew ?_ | refine Gf.below_drewN ?_ _)))).mono ?_; rintro z w6 ⟨rfl, hbX⟩; have hkeep := (by exact HC.out w6 hbX)))
            all_goals
              go_wp2
              go_ret
              exact ⟨by first | rfl | simp, HB6.out.trans (hbX.mono HB6.out.size)⟩
          · exact absurd ⟨s, e, ps, D, HG.out⟩ hg'
        · have HB2 := mkH hb2
          have HG := mkH hg
          clear hb2 hg HRV
          go_wp2_with fail
          refine (HRR.out w2 HB2.out).mono ?_
          rintro x w3 ⟨hb3, ⟨s', e', ps', D', R, hg', -, rfl, hrm, hR⟩ | ⟨hg', rfl⟩⟩
          · exact absurd ⟨s', e', ps', D', hg'⟩ HG.out
          · have HB3 := mkH (HB.out.trans ((HB2.out.trans (hb3.mono HB2.out.size)).mono HB.out.size))
            clear hb3 hg' HRR
            go_wp2_with fail
            refine (Cw.works_any w3).mono ?_
            rintro z w4 ⟨rfl, hb4⟩
            have HB4 := mkH (HB3.out.trans (hb4.mono HB3.out.size))
            clear hb4
            go_wp2
            go_ret
            exact ⟨by first | rfl | simp, HB4.out⟩
end Go.Proofs.Ytcpmcfagibmboaa.Rl
