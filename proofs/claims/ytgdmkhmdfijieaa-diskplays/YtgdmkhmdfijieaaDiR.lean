/-
  The document's disk in memory; join, Append, Swap, Read of it.
-/
import Derived.Test.YtgdmkhmdfijieaaDiS
namespace Go.Proofs.Ytgdmkhmdfijieaa.Dr
open Go.RowKit Kt Dk Dp Da Db Dc Dd De Df Dg Dst
set_option linter.unusedVariables false
set_option maxRecDepth 20000

/-- Bytes in memory of F, but not in block R. -/
def Rd (w : World) (F : Nat → Prop) (R : Nat) (ao : Option Addr) (cap : Nat) (bs : List UInt8) : Prop := Row w ao bs ∧ bs.length ≤ cap ∧ cap ≤ 9223372036854775807 ∧ ∀ b off, ao = some ⟨b, off, none⟩ → 0 < bs.length → F b ∧ b ≠ R
theorem Rd.kept {w w' : World} {F : Nat → Prop} {R : Nat} {ao : Option Addr} {cap : Nat} {bs : List UInt8} (h : Rd w F R ao cap bs) (hk : ∀ k, F k → k ≠ R → w'.heap[k]? = w.heap[k]?) : Rd w' F R ao cap bs := by
  refine ⟨fun h0 => ?_, h.2⟩
  obtain ⟨b, off, e, hc⟩ := h.1 h0
  obtain ⟨f1, f2⟩ := h.2.2.2 b off e h0
  refine ⟨b, off, e, fun i hi => ?_⟩
  rw [← hc i hi]
  exact World.cell?_of_block (w := w) (hk b f1 f2)
theorem Rd.mono {w : World} {F G : Nat → Prop} {R : Nat} {ao : Option Addr} {cap : Nat} {bs : List UInt8} (h : Rd w F R ao cap bs) (hi : ∀ k, F k → G k) : Rd w G R ao cap bs :=
  ⟨h.1, h.2.1, h.2.2.1, fun b off e h0 => ⟨hi b (h.2.2.2 b off e h0).1, (h.2.2.2 b off e h0).2⟩⟩
theorem Rd.nil (w : World) (F : Nat → Prop) (R : Nat) : Rd w F R none 0 [] := ⟨Row.nil _ _, Nat.le_refl _, by omega, fun b off e => by cases e⟩
theorem Rd.take {w : World} {F : Nat → Prop} {R : Nat} {ao : Option Addr} {cap : Nat} {bs : List UInt8} (h : Rd w F R ao cap bs) (n : Nat) : Rd w F R ao cap (bs.take n) :=
  ⟨Row_take h.1 n, by have := h.2.1; rw [List.length_take]; omega, h.2.2.1, fun b off e h0 => h.2.2.2 b off e (by rw [List.length_take] at h0; omega)⟩

/-- Block R is the document's disk, its slices 'ka', 'ra'. -/
structure Rw (w : World) (F : Nat → Prop) (R : Nat) (down : Bool) (kept rest : List UInt8) (ka : Option Addr) (kc : Nat) (ra : Option Addr) (rc : Nat) : Prop where
  lt : ∀ k, F k → k < w.heap.size
  own : F R
  heap : w.heap[R]? = some (.cells #[.slice ka kept.length kc, .slice ra rest.length rc, .bool down] 28 (0, 0))
  k : Rd w F R ka kc kept
  r : Rd w F R ra rc rest
section
variable {w : World} {F : Nat → Prop} {R : Nat} {down : Bool} {kept rest : List UInt8} {ka : Option Addr} {kc : Nat} {ra : Option Addr} {rc : Nat}
theorem Rw.c0 (h : Rw w F R down kept rest ka kc ra rc) : w.cell? ⟨R, 0, none⟩ = some (.slice ka kept.length kc) := by rw [cell_of_row _ _ _ _ _ _ h.heap]; rfl
theorem Rw.c1 (h : Rw w F R down kept rest ka kc ra rc) : w.cell? ⟨R, 1, none⟩ = some (.slice ra rest.length rc) := by rw [cell_of_row _ _ _ _ _ _ h.heap]; rfl
theorem Rw.c2 (h : Rw w F R down kept rest ka kc ra rc) : w.cell? ⟨R, 2, none⟩ = some (.bool down) := by rw [cell_of_row _ _ _ _ _ _ h.heap]; rfl
theorem Rw.fz (h : Rw w F R down kept rest ka kc ra rc) (i : Nat) : w.frozen? ⟨R, i, none⟩ = false := frozen_of_row w R i _ _ h.heap
theorem Rw.dlt (h : Rw w F R down kept rest ka kc ra rc) : R < w.heap.size := block_lt h.heap
theorem Rw.keep {w' : World} (h : Rw w F R down kept rest ka kc ra rc) (hs : w.heap.size ≤ w'.heap.size) (hk : ∀ k, F k → w'.heap[k]? = w.heap[k]?) : Rw w' F R down kept rest ka kc ra rc :=
  ⟨fun k hf => Nat.lt_of_lt_of_le (h.lt k hf) hs, h.own, by rw [hk R h.own]; exact h.heap, h.k.kept (fun k hf _ => hk k hf), h.r.kept (fun k hf _ => hk k hf)⟩
theorem Rw.below {w' : World} (h : Rw w F R down kept rest ka kc ra rc) (hb : Below w.heap.size w w') : Rw w' F R down kept rest ka kc ra rc := h.keep hb.size (fun k hf => hb.block k (h.lt k hf))
theorem rset_fr (h : w.heap[R]? = some (.cells #[.slice ka kept.length kc, .slice ra rest.length rc, .bool down] 28 (0, 0))) (i : Nat) (u : Value) : Fr (fun k => k = R) w (w.setCell ⟨R, i, none⟩ u) := by
  rw [setCell_eq_setRow w R i _ _ (0, 0) _ h]
  exact (Fr.refl (fun k => k = R) w).setRow (b := R) (.inl rfl) _
theorem Rw.setDown (h : Rw w F R down kept rest ka kc ra rc) (d : Bool) : Rw (w.setCell ⟨R, 2, none⟩ (.bool d)) F R d kept rest ka kc ra rc := by
  have hf := rset_fr h.heap 2 (.bool d)
  refine ⟨fun k hk => Nat.lt_of_lt_of_le (h.lt k hk) hf.size, h.own, ?_, h.k.kept (fun k hk hn => hf.heap (h.lt k hk) hn), h.r.kept (fun k hk hn => hf.heap (h.lt k hk) hn)⟩
  rw [setCell_eq_setRow w R 2 _ _ (0, 0) _ h.heap]
  exact setRow_heap _ _ _ _ _ _ h.heap
theorem Rw.setKept {ka2 : Option Addr} {kc2 : Nat} {kept2 : List UInt8} (h : Rw w F R down kept rest ka kc ra rc) (hr : Rd w F R ka2 kc2 kept2) : Rw (w.setCell ⟨R, 0, none⟩ (.slice ka2 kept2.length kc2)) F R down kept2 rest ka2 kc2 ra rc := by
  have hf := rset_fr h.heap 0 (.slice ka2 kept2.length kc2)
  refine ⟨fun k hk => Nat.lt_of_lt_of_le (h.lt k hk) hf.size, h.own, ?_, hr.kept (fun k hk hn => hf.heap (h.lt k hk) hn), h.r.kept (fun k hk hn => hf.heap (h.lt k hk) hn)⟩
  rw [setCell_eq_setRow w R 0 _ _ (0, 0) _ h.heap]
  exact setRow_heap _ _ _ _ _ _ h.heap
theorem Rw.setRest {ra2 : Option Addr} {rc2 : Nat} {rest2 : List UInt8} (h : Rw w F R down kept rest ka kc ra rc) (hr : Rd w F R ra2 rc2 rest2) : Rw (w.setCell ⟨R, 1, none⟩ (.slice ra2 rest2.length rc2)) F R down kept rest2 ka kc ra2 rc2 := by
  have hf := rset_fr h.heap 1 (.slice ra2 rest2.length rc2)
  refine ⟨fun k hk => Nat.lt_of_lt_of_le (h.lt k hk) hf.size, h.own, ?_, h.k.kept (fun k hk hn => hf.heap (h.lt k hk) hn), hr.kept (fun k hk hn => hf.heap (h.lt k hk) hn)⟩
  rw [setCell_eq_setRow w R 1 _ _ (0, 0) _ h.heap]
  exact setRow_heap _ _ _ _ _ _ h.heap
/-- .. with what is new. -/
theorem Rw.grow {w' : World} (h : Rw w F R down kept rest ka kc ra rc) (hb : Below w.heap.size w w') : Rw w' (fun k => F k ∨ (w.heap.size ≤ k ∧ k < w'.heap.size)) R down kept rest ka kc ra rc := by
  have h' := h.below hb
  refine ⟨fun k hk => ?_, .inl h'.own, h'.heap, h'.k.mono (fun k hk => .inl hk), h'.r.mono (fun k hk => .inl hk)⟩
  rcases hk with x | x
  · exact h'.lt k x
  · exact x.2
end
theorem nx_grow {w w' w'' : World} {F : Nat → Prop} {R : Nat} (hb : Below w.heap.size w w') (hf : Fr (fun k => k = R) w' w'') (ho : F R) : Nx F w w'' (fun k => F k ∨ (w.heap.size ≤ k ∧ k < w'.heap.size)) :=
  ⟨(Fr.ofBelow hb).trans hf (fun i hi => by subst hi; exact .inl ho), fun k hk => by
    rcases hk with x | x
    · exact .inl x
    · exact .inr x.1⟩

def Rs (w : World) (F : Nat → Prop) (R : Nat) (s : St) : Prop := s.kept.length + s.rest.length ≤ 4194304 ∧ ∃ ka kc ra rc, Rw w F R s.down s.kept s.rest ka kc ra rc
theorem Rs.below {w w' : World} {F : Nat → Prop} {R : Nat} {s : St} (h : Rs w F R s) (hb : Below w.heap.size w w') : Rs w' F R s := by
  obtain ⟨hl, ka, kc, ra, rc, h⟩ := h; exact ⟨hl, ka, kc, ra, rc, h.below hb⟩
theorem Rs.fr {w w' : World} {F G : Nat → Prop} {R : Nat} {s : St} (h : Rs w F R s) (hf : Fr G w w') (hd : ∀ k, F k → ¬ G k) : Rs w' F R s := by
  obtain ⟨hl, ka, kc, ra, rc, h⟩ := h
  exact ⟨hl, ka, kc, ra, rc, h.keep hf.size (fun k hk => hf.heap (h.lt k hk) (hd k hk))⟩
theorem Rs.lt {w : World} {F : Nat → Prop} {R : Nat} {s : St} (h : Rs w F R s) : ∀ k, F k → k < w.heap.size := by obtain ⟨hl, ka, kc, ra, rc, h⟩ := h; exact h.lt

set_option maxHeartbeats 1000000 in
theorem join_any (w : World) (ao bo : Option Addr) (ca cb : Nat) (xs ys : List UInt8) (hx : Row w ao xs) (hy : Row w bo ys) (hl : xs.length + ys.length ≤ 4194304) :
    Calls Try.prog 35 #[.slice ao xs.length ca, .slice bo ys.length cb] w fun e w' => ∃ va vc, e = .returned (.slice va (xs ++ ys).length vc) ∧ Below w.heap.size w w' ∧ w'.ownsRow w.heap.size 5 1 (.slice va (xs ++ ys).length vc) (xs ++ ys).length (U (xs ++ ys)) := by
  go_enter Try.func35, Try.ntmps35
  go_wp2_with (at_builtin; refine (wpList_append_own_src _ rfl (.tmp 5) (.tmp 6) 26 26 rfl w.heap.size 5 (.int .u8 0) 1 1 Try.underlying26 info5 rfl (by decide) _ 0 [] rfl (World.ownsRow_made w #[] 0 (Nat.le_refl _) (Nat.zero_le _) rfl) _ xs.length (U xs) rfl ?hsrc ?h63 ?hby ?hbs ?_))
  case hsrc => exact Row.src (P := Try.prog) Try.underlying26 (hx.below (below_alloc w (.cells #[] 5))) ca
  case h63 => unfold maxLen; omega
  case hby => omega
  case hbs => simp
  intro v2 w2 hown2 hgrow2
  have hb2 := below_own (World.ownsRow_made (e := 5) (size := 1) w #[] 0 (Nat.le_refl _) (Nat.zero_le _) rfl) hgrow2 (below_alloc w (.cells #[] 5)) (by simp)
  have hown2 : w2.ownsRow w.heap.size 5 1 v2 xs.length (U xs) := by simpa using hown2
  clear hgrow2
  go_wp2_with (at_builtin; refine (wpList_append_own_src _ rfl (.tmp 7) (.tmp 8) 26 26 rfl w.heap.size 5 (.int .u8 0) 1 1 Try.underlying26 info5 rfl (by decide) _ xs.length (U xs) rfl hown2 _ ys.length (U ys) rfl ?hsrc2 ?h632 ?hby2 ?hbs2 ?_))
  case hsrc2 => exact Row.src (P := Try.prog) Try.underlying26 (hy.below hb2) cb
  case h632 => unfold maxLen; omega
  case hby2 => omega
  case hbs2 => exact hb2.size
  intro v3 w3 hown3 hgrow3
  have hb3 := below_own hown2 hgrow3 hb2 hb2.size
  rw [← U_append, ← List.length_append] at hown3
  obtain ⟨zs, hz⟩ : ∃ zs, xs ++ ys = zs := ⟨_, rfl⟩
  rw [hz] at hown3
  have HZ := mkH hz
  obtain ⟨va, vc, rfl⟩ := own_form hown3
  have HO := mkH hown3
  have HB := mkH hb3
  clear hown2 hown3 hb2 hb3 hgrow3 hx hy hz
  go_wp2
  go_ret
  rw [HZ.out]
  exact ⟨va, vc, rfl, HB.out, HO.out⟩

/-- A row that is owned since w1, as bytes of a footprint. -/
theorem rd_own {w : World} {F : Nat → Prop} {R base n cap : Nat} {ao : Option Addr} {bs : List UInt8} (h : w.ownsRow base 5 1 (.slice ao n cap) n (U bs)) (hF : ∀ k, base ≤ k → k < w.heap.size → F k ∧ k ≠ R) : Rd w F R ao cap bs := by
  obtain ⟨h1, h2, h3⟩ := Row.own h
  refine ⟨h3, by omega, own_cap h, fun b off e h0 => ?_⟩
  obtain ⟨b2, off2, e2, hc⟩ := h3 h0
  have hb := h.lt b (by rw [e]; rfl)
  exact hF b hb.1 hb.2

/-- What a call of the document's disk leaves: as the plain one. -/
def Ro (w : World) (F : Nat → Prop) (R : Nat) (w' : World) (s' : St) : Prop := ∃ F', Rs w' F' R s' ∧ Nx F w w' F'
theorem ro_same {w : World} {F : Nat → Prop} {R : Nat} {s : St} (h : Rs w F R s) : Ro w F R w s := ⟨F, h, Nx.refl _ _⟩

set_option maxHeartbeats 1000000 in
theorem rswap_any {w : World} {F : Nat → Prop} {R : Nat} {s : St} (h : Rs w F R s) (ao : Option Addr) (cap : Nat) (bs : List UInt8) (hr : Row w ao bs) (hl : bs.length ≤ 9223372036854775807) :
    Calls Try.prog 32 #[.pointer (some ⟨R, 0, none⟩), .slice ao bs.length cap] w fun e w' => e = .returned (.int .i64 (swpE s bs.length)) ∧ Ro w F R w' (swpS s bs) := by
  have H0 := mkH h
  obtain ⟨hlen, ka, kc, ra, rc, h⟩ := h
  have c2 := h.c2
  have H := mkH h
  clear h
  have HE := mkH (show swpE s bs.length = if s.down then 10 else if 4194304 < bs.length then 7 else 0 from rfl)
  have HS := mkH (show swpS s bs = if s.down then s else if 4194304 < bs.length then s else ⟨bs, [], false⟩ from rfl)
  generalize swpE s bs.length = E at HE ⊢
  generalize swpS s bs = S' at HS ⊢
  cases hd : s.down
  · rw [hd] at HE HS c2
    simp only [Bool.false_eq_true, if_false] at HE HS
    have HD := mkH hd
    clear hd
    by_cases hful : 4194304 < bs.length
    · rw [if_pos hful] at HE HS
      have t1 : (4194304 : Int) < (bs.length : Int) := by omega
      go_enter Try.func32, Try.ntmps32
      go_wp2
      go_ret
      exact ⟨ret_i HE.out, by rw [HS.out]; exact ro_same H0.out⟩
    · rw [if_neg hful] at HE HS
      have t1 : ¬ (4194304 : Int) < (bs.length : Int) := by omega
      have HJ := mkH (join_any w ao none cap 0 bs [] hr (Row.nil _ _) (by simp; omega))
      rw [List.append_nil] at HJ
      have hbl : bs.length ≤ 4194304 := by omega
      clear hr
      go_enter Try.func32, Try.ntmps32
      go_wp2_with fail
      refine HJ.out.mono ?_
      rintro e w1 ⟨va, vc, rfl, hb1, hown⟩
      have hg := H.out.grow hb1
      have hrd : Rd w1 (fun k => F k ∨ (w.heap.size ≤ k ∧ k < w1.heap.size)) R va vc bs := rd_own hown (fun k h1 h2 => ⟨.inr ⟨h1, h2⟩, by have := H.out.dlt; omega⟩)
      have d0 := hg.c0
      have f0 := hg.fz 0
      have hg1 := hg.setKept hrd
      have hf1 := rset_fr hg.heap 0 (.slice va bs.length vc)
      have d1 := hg1.c1
      have f1 := hg1.fz 1
      have hg2 := hg1.setRest (ra2 := none) (rc2 := 0) (rest2 := []) (Rd.nil _ _ _)
      have hf2 := rset_fr hg1.heap 1 (.slice none 0 0)
      have HG2 := mkH hg2
      have HN := mkH (nx_grow hb1 (hf1.trans hf2 (fun i hi => .inl hi)) H.out.own)
      clear hg hg1 hg2 hf1 hf2 hrd hown hb1 HJ
      go_wp2
      go_ret
      refine ⟨ret_i HE.out, _, ?_, HN.out⟩
      rw [HS.out]
      refine ⟨by simpa using hbl, va, vc, none, 0, ?_⟩
      have := HG2.out
      rw [HD.out] at this
      exact this
  · rw [hd] at HE HS c2
    simp only [if_true] at HE HS
    go_enter Try.func32, Try.ntmps32
    go_wp2
    go_ret
    exact ⟨ret_i HE.out, by rw [HS.out]; exact ro_same H0.out⟩
end Go.Proofs.Ytgdmkhmdfijieaa.Dr
