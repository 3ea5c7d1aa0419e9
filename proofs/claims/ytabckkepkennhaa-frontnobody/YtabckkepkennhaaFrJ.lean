/-
  A reply that ends a step of entries. Written by gen_frj.py.
-/
import Derived.Test.YtabckkepkennhaaFrX
import Derived.Test.YtabckkepkennhaaFrV
import Derived.Test.YtabckkepkennhaaFrI
import Derived.Test.YtabckkepkennhaaRgG
import Derived.Deep.AppendSrc
namespace Go.Proofs.Ytabckkepkennhaa.Fj
open Go.RowKit Kt Gf Gk Fp Fa Fb Fc Fr1 Fo Fv Ks
set_option linter.unusedVariables false
set_option linter.unusedSimpArgs false
set_option maxRecDepth 20000

set_option maxHeartbeats 1000000 in
theorem isOver_ent {w : World} {B : Nat} {mv : Value} {a : As} {s : Ks} (h : Bx w B (Xc (kl s) a mv) 57) (hsh : ofSh s.kind = false) {ao ra : Option Addr} {ne cap rn rc : Nat} (he : s.ent = .slice ao ne cap) (hr : s.reps = .slice ra rn rc) (er sq n : Int) :
    Calls Try.prog 52 #[.pointer (some ⟨B, 0, none⟩), .agg (Rz er sq n)] w fun x w' => x = .returned (.bool (decide (ne ≤ rn))) ∧ Below w.heap.size w w' := by
  obtain ⟨V, hV⟩ : ∃ V, V = w.alloc (.cells (Rz er sq n) 37) := ⟨_, rfl⟩
  have HB := mkH (show Below w.heap.size w V by rw [hV]; exact (Below.refl _ w).alloc (Nat.le_refl _) _)
  have hX := h.bel HB.out
  have c27 : V.cell? ⟨B, 27, none⟩ = some (.int .i64 s.kind) := hX.cell 27 _ rfl
  have c32 : V.cell? ⟨B, 32, none⟩ = some (.slice ao ne cap) := (hX.cell 32 s.ent rfl).trans (congrArg some he)
  have c35 : V.cell? ⟨B, 35, none⟩ = some (.slice ra rn rc) := (hX.cell 35 s.reps rfl).trans (congrArg some hr)
  have HIS := mkH (isOfShards_any V s.kind)
  rw [hsh] at HIS
  have HV := mkH hV
  clear h hX hV hsh
  go_enter Try.func52, Try.ntmps52
  go_upto_region 1 with fail
  rw [show w.alloc (.cells (Rz er sq n) 37) = V from HV.out.symm]
  go_wp2_with (refine HIS.out.mono ?_; rintro x w2 ⟨rfl, rfl⟩)
  go_quiet (fail)
  go_wp2
  go_ret
  exact ⟨rfl, Gf.below_drewN HB.out _⟩
/-- A reply without lists, in a row. -/
def cP (x : Int × Int × Int) : List Value := [.int .i64 x.1, .int .i64 x.2.1, .int .i64 x.2.2, .slice none 0 0, .slice none 0 0, .slice none 0 0]
theorem cP_len (x : Int × Int × Int) : (cP x).length = 6 := rfl
theorem cP_one (x : Int × Int × Int) : ∀ u ∈ cP x, u.oneCell' = true := by intro u hu; simp [cP] at hu; rcases hu with rfl | rfl | rfl | rfl <;> rfl
theorem infoPz : (Try.prog.info? 37).map (fun i => (i.zero, i.size, i.bytes)) = some (some (.agg #[.int .i64 0, .int .i64 0, .int .i64 0, .slice none 0 0, .slice none 0 0, .slice none 0 0]), 6, 96) := by kernel_rfl
set_option maxHeartbeats 4000000 in
theorem hearReply_ans {w : World} {B m : Nat} {a : As} {s : Ks} (h : Bx w B (Xc (kl s) a (.map (some m))) 57) (hb : s.busy = true) (hsh : ofSh s.kind = false) (ha : a.asks = true) (hid : 1 ≤ a.id ∧ a.id ≤ 1099511627776) {pv : Array Value} {kd tt g cl nu er sq n ce : Int} {cp : Value} (hp : Pv pv kd tt g cl nu er sq n (.slice none 0 0) (.slice none 0 0) (.slice none 0 0) ce cp) (hans : ansB a kd tt g cl nu = true) (he15 : er ≠ 15) (he14 : er ≠ 14)
    {ao ra : Option Addr} {ne cap rn rc base : Nat} {rs : List (Int × Int × Int)} (he : s.ent = .slice ao ne cap) (hr : s.reps = .slice ra rn rc) (hrow : w.ownsRow base 37 6 (.slice ra rn rc) rn (Nr.Fl cP rs)) (hrn : rs.length = rn) (hrl : rn ≤ 1000000) (hba : base ≤ w.heap.size) :
    Calls Try.prog 34 #[.pointer (some ⟨B, 0, none⟩), .agg pv] w fun x w' => x = .returned (.tuple #[]) ∧ ∃ ra' rc', w'.ownsRow base 37 6 (.slice ra' (rn + 1) rc') (rn + 1) (Nr.Fl cP (rs ++ [(er, sq, n)])) ∧
      Bx w' B (Xc (kl { s with reps := .slice ra' (rn + 1) rc', busy := !decide (ne ≤ rn + 1) }) { a with asks := false } (.map (some m))) 57 ∧ Fr (fun q => q = B ∨ (Value.slice ra rn rc).ownBlock = some q) w w' := by
  have hmx : Try.prog.follows .mixedOrders = true := by kernel_rfl
  obtain ⟨V, hV⟩ : ∃ V, V = w.alloc (.cells pv 42) := ⟨_, rfl⟩
  have HB := mkH (show Below w.heap.size w V by rw [hV]; exact (Below.refl _ w).alloc (Nat.le_refl _) _)
  have HXB := mkH (show Bx V w.heap.size pv 42 by rw [hV]; exact Bx.new _ _ _)
  have HXV := mkH (h.bel HB.out)
  have HP := mkH hp
  have HA := mkH ha
  have HANS := mkH hans
  have HBN : Hid (¬ w.heap.size = B) := mkH (Nat.ne_of_gt h.lt)
  have HV := mkH hV
  have HROWw := mkH hrow
  have HLT := mkH h.lt
  have HKB : Hid (∀ k, (Value.slice ra rn rc).ownBlock = some k → ¬ k = B) := mkH (fun k hk hq => Gk.own_ne hrow h hk (by decide) hq)
  have HKL : Hid (∀ k, (Value.slice ra rn rc).ownBlock = some k → k < w.heap.size) := mkH (fun k hk => (hrow.lt k hk).2)
  have HS6 : Hid (∀ W, Bx W B (Xc (kl s) { a with asks := false } (.map (some m))) 57 → ∀ {nb : Nat}, Bx W nb (Rz er sq n) 37 → W.cell? ⟨B, 35, none⟩ = some (.slice ra rn rc) ∧ (loadVar 37 ⟨nb, 0, none⟩).run Try.prog W = .ok (.agg (Rz er sq n)) W) := mkH (fun W hx nb hy => ⟨(hx.cell 35 s.reps rfl).trans (congrArg some hr), load_rz hy⟩)
  clear h hp hV ha hans hrow
  go_enter Try.func34, Try.ntmps34
  go_upto_region 1 with fail
  rw [show w.alloc (.cells pv 42) = V from HV.out.symm]
  refine Rg.region_G hmx 9 (fun W => (loadVar 42 ⟨w.heap.size, 0, none⟩).run Try.prog W = .ok (.agg pv) W) (load_pk (show Bx V.drew w.heap.size pv 42 from HXB.out) HP.out.sz) (fun hHeld => ?_)
  have HX2 := mkH (show Bx V.drew B (Xc (kl s) a (.map (some m))) 57 from HXV.out)
  have HB2 := mkH HB.out.drew
  have HXB2 := mkH (show Bx V.drew w.heap.size pv 42 from HXB.out)
  generalize V.drew = V2 at *
  refine Rg.anyG_pure (i := 0) (oi := { dst := some 7, op := _, type := _, pos := _, after := _, guard := _ }) (v := ?_) rfl (by kernel_rfl) (by kernel_rfl) (by kernel_rfl) (by rfl) (fun _ _ _ h => h) (Or.inl ⟨by rfl, ?_⟩) (fun _ => by assumption) ?_
  rotate_left
  · (intro W hSw; (try dsimp only at hSw); go_simp; try (with_reducible rfl))
  try simp only [Act.put, List.setIfInBounds_toArray, List.set_cons_zero, List.set_cons_succ]
  refine Rg.anyG_pure (i := 1) (oi := { dst := some 8, op := _, type := _, pos := _, after := _, guard := _ }) (v := ?_) rfl (by kernel_rfl) (by kernel_rfl) (by kernel_rfl) (by rfl) (fun _ _ _ h => h) (Or.inl ⟨by rfl, ?_⟩) (fun _ => by assumption) ?_
  rotate_left
  · (intro W hSw; (try dsimp only at hSw); go_simp; try (with_reducible rfl))
  try simp only [Act.put, List.setIfInBounds_toArray, List.set_cons_zero, List.set_cons_succ]
  refine Rg.anyG_pure (i := 2) (oi := { dst := some 9, op := _, type := _, pos := _, after := _, guard := _ }) (v := ?_) rfl (by kernel_rfl) (by kernel_rfl) (by kernel_rfl) (by rfl) (fun _ _ _ h => h) (Or.inl ⟨by rfl, ?_⟩) (fun _ => by assumption) ?_
  rotate_left
  · (intro W hSw; (try dsimp only at hSw); go_simp; try (with_reducible rfl))
  try simp only [Act.put, List.setIfInBounds_toArray, List.set_cons_zero, List.set_cons_succ]
  refine Rg.anyG_take (i := 3) (oi := { dst := some 10, op := _, type := _, pos := _, after := _, guard := _ }) (v := .agg pv) rfl (by kernel_rfl) (by kernel_rfl) (by kernel_rfl) [9] (by kernel_rfl) (fun _ _ _ h => h) (Or.inl ⟨by rfl, ?_⟩) (by assumption) ?_
  · (intro W hSw; (try dsimp only at hSw); exact Gk.run_ld rfl rfl hSw)
  try simp only [Act.put, List.setIfInBounds_toArray, List.set_cons_zero, List.set_cons_succ]
  refine Rg.anyG_ready (rs := [4, 8]) (by kernel_rfl) (by simp) ?_
  refine (Rg.AllG.cons (o := { dst := some 11, op := _, type := _, pos := _, after := _, guard := _ }) rfl (fun K hK => ?_) (Rg.AllG.cons (o := { dst := some 4, op := _, type := _, pos := _, after := _, guard := _ }) rfl (fun K hK => ?_) Rg.AllG.nil))
  · go_simp
    refine (Recv_ans HX2.out HA.out hid HP.out HANS.out he15).mono ?_
    rintro e1 V3 ⟨rfl, hT⟩
    have HT := mkH hT
    have HXB3 := mkH (HXB2.out.fr hT.2 HBN.out)
    clear hT
    go_wp2_with fail
    refine hK.out _ _ ?_ (fun hHeld => ?_)
    · exact load_pk HXB3.out HP.out.sz
    clear hK K
    try simp only [Act.put, List.setIfInBounds_toArray, List.set_cons_zero, List.set_cons_succ]
    refine Rg.anyG_pure (i := 5) (oi := { dst := some 6, op := _, type := _, pos := _, after := _, guard := _ }) (v := ?_) rfl (by kernel_rfl) (by kernel_rfl) (by kernel_rfl) (by rfl) (fun _ _ _ h => h) (Or.inl ⟨by rfl, ?_⟩) (fun _ => by assumption) ?_
    rotate_left
    · (intro W hSw; (try dsimp only at hSw); go_simp; try (with_reducible rfl))
    try simp only [Act.put, List.setIfInBounds_toArray, List.set_cons_zero, List.set_cons_succ]
    refine Rg.anyG_pure (i := 6) (oi := { dst := some 12, op := _, type := _, pos := _, after := _, guard := _ }) (v := ?_) rfl (by kernel_rfl) (by kernel_rfl) (by kernel_rfl) (by rfl) (fun _ _ _ h => h) (Or.inl ⟨by rfl, ?_⟩) (fun _ => by assumption) ?_
    rotate_left
    · (intro W hSw; (try dsimp only at hSw); go_simp; try (with_reducible rfl))
    try simp only [Act.put, List.setIfInBounds_toArray, List.set_cons_zero, List.set_cons_succ]
    refine Rg.anyG_pure (i := 7) (oi := { dst := some 13, op := _, type := _, pos := _, after := _, guard := _ }) (v := ?_) rfl (by kernel_rfl) (by kernel_rfl) (by kernel_rfl) (by rfl) (fun _ _ _ h => h) (Or.inl ⟨by rfl, ?_⟩) (fun _ => by assumption) ?_
    rotate_left
    · (intro W hSw; (try dsimp only at hSw); go_simp; try (with_reducible rfl))
    try simp only [Act.put, List.setIfInBounds_toArray, List.set_cons_zero, List.set_cons_succ]
    refine Rg.anyG_ready (rs := [8]) (by kernel_rfl) (by simp) ?_
    refine (Rg.AllG.cons (o := { dst := some 4, op := _, type := _, pos := _, after := _, guard := _ }) rfl (fun K hK => ?_) Rg.AllG.nil)
    go_simp
    refine hK.out _ _ ?_ (fun hHeld => ?_)
    · exact load_pk (HXB3.out.alloc _) HP.out.sz
    clear hK K
    try simp only [Act.put, List.setIfInBounds_toArray, List.set_cons_zero, List.set_cons_succ]
    have HY9 : Hid (Bx (V3.alloc (.cells #[.int .i64 0, .int .i64 0, .int .i64 0, .slice none 0 0, .slice none 0 0, .slice none 0 0] 37)) V3.heap.size (Rz 0 0 0) 37) := mkH (Bx.new V3 _ _)
    have HT9 : Hid (Bx (V3.alloc (.cells #[.int .i64 0, .int .i64 0, .int .i64 0, .slice none 0 0, .slice none 0 0, .slice none 0 0] 37)) B (Xc (kl s) { a with asks := false } (.map (some m))) 57) := mkH (HT.out.1.alloc _)
    have HF9 : Hid (Fr (fun q => q = B) w (V3.alloc (.cells #[.int .i64 0, .int .i64 0, .int .i64 0, .slice none 0 0, .slice none 0 0, .slice none 0 0] 37))) := mkH (((Fr.ofBelow (F := fun q => q = B) HB2.out).trans HT.out.2 (fun i hi => .inl hi)).alloc _)
    have HNB9 : Hid (w.heap.size + 1 ≤ V3.heap.size) := mkH (by have := HXB3.out.lt; omega)
    clear hHeld HT HXB3
    generalize V3.alloc (.cells #[.int .i64 0, .int .i64 0, .int .i64 0, .slice none 0 0, .slice none 0 0, .slice none 0 0] 37) = V9 at *
    generalize V3.heap.size = nb at *
    refine Rg.anyG_ready (rs := [9]) (by kernel_rfl) (by simp) ?_
    refine Rg.AllG.last (o := { dst := none, op := _, type := _, pos := _, after := _, guard := _ }) rfl (by kernel_rfl) (fun K hK => ?_)
    refine Gk.step_st (K := fun a w => K a w) rfl 37 (.tmp 4) (.tmp 12) rfl nb (Rz er sq n) (Rz 0 0 0) 37 rfl rfl HY9.out infoRp rfl (Rz_one _ _ _) ?_
    refine hK.out _ _ ?_
    clear hK K
    try simp only [Act.put, List.setIfInBounds_toArray, List.set_cons_zero, List.set_cons_succ]
    refine Rg.anyG_pure (i := 10) (oi := { dst := some 5, op := _, type := _, pos := _, after := _, guard := _ }) (v := ?_) rfl (by kernel_rfl) (by kernel_rfl) (by kernel_rfl) (by rfl) (fun _ _ _ h => h) (Or.inl ⟨by rfl, ?_⟩) (fun h => absurd (h.symm.trans (show _ = true by kernel_rfl)) Bool.false_ne_true) ?_
    rotate_left
    · (intro W hSw; (try dsimp only at hSw); go_simp; try (with_reducible rfl))
    try simp only [Act.put, List.setIfInBounds_toArray, List.set_cons_zero, List.set_cons_succ]
    refine Rg.anyG_done (by kernel_rfl) ?_ _
    skip
    have HNBB : Hid (nb ≠ B) := mkH (by have h1 := HNB9.out; have h2 := HLT.out; omega)
    have HX10 := mkH (HT9.out.rowOther HNBB.out (Rz er sq n))
    have HY10 := mkH (HY9.out.row (cs := Rz er sq n))
    have HF10 := mkH (HF9.out.trans (Bx.frrow (b := nb) (w := V9) (Rz er sq n)) (fun i hi => .inr (by have h1 := HNB9.out; subst hi; omega)))
    clear HT9 HY9 HF9
    generalize V9.setRow nb (Rz er sq n) = V10 at *
    have HROW10 := mkH (Nr.own_fr HROWw.out HF10.out HKB.out)
    have c33 : V10.cell? ⟨B, 33, none⟩ = some (.bool true) := (HX10.out.cell 33 (.bool s.busy) rfl).trans (congrArg (fun t => some (Value.bool t)) hb)
    have y0 : V10.cell? ⟨nb, 0, none⟩ = some (.int .i64 er) := HY10.out.cell 0 _ rfl
    have hb14 : (er == 14) = false := by simpa using he14
    go_wp2_with fail
    refine Rg.region_G hmx 10 (fun W => W.cell? ⟨B, 35, none⟩ = some (.slice ra rn rc) ∧ (loadVar 37 ⟨nb, 0, none⟩).run Try.prog W = .ok (.agg #[.int .i64 er, .int .i64 sq, .int .i64 n, .slice none 0 0, .slice none 0 0, .slice none 0 0]) W) (HS6.out _ (show Bx V10.drew B (Xc (kl s) { a with asks := false } (.map (some m))) 57 from HX10.out) (show Bx V10.drew nb (Rz er sq n) 37 from HY10.out)) (fun hHeld => ?_)
    have HX11 := mkH (show Bx V10.drew B (Xc (kl s) { a with asks := false } (.map (some m))) 57 from HX10.out)
    have HY11 := mkH (show Bx V10.drew nb (Rz er sq n) 37 from HY10.out)
    have HR11 := mkH (show V10.drew.ownsRow base 37 6 (.slice ra rn rc) rn (Nr.Fl cP rs) from Nr.own_below HROW10.out (Below.refl _ _).drew)
    have HZ11 : Hid (w.heap.size ≤ V10.drew.heap.size) := mkH HF10.out.size
    have HF11 := mkH (HF10.out.trans (Fr.ofBelow (F := fun q => q = B) (Below.refl V10.heap.size V10).drew) (fun i hi => .inl hi))
    clear HX10 HY10 HROW10 HF10 c33 y0 hb14
    generalize V10.drew = V11 at *
    refine Rg.anyG_pure (i := 0) (oi := { dst := some 42, op := _, type := _, pos := _, after := _, guard := _ }) (v := ?_) rfl (by kernel_rfl) (by kernel_rfl) (by kernel_rfl) (by rfl) (fun _ _ _ h => h) (Or.inl ⟨by rfl, ?_⟩) (fun _ => by assumption) ?_
    rotate_left
    · (intro W hSw; (try dsimp only at hSw); go_simp; try (with_reducible rfl))
    try simp only [Act.put, List.setIfInBounds_toArray, List.set_cons_zero, List.set_cons_succ]
    refine Rg.anyG_pure (i := 1) (oi := { dst := some 43, op := _, type := _, pos := _, after := _, guard := _ }) (v := ?_) rfl (by kernel_rfl) (by kernel_rfl) (by kernel_rfl) (by rfl) (fun _ _ _ h => h) (Or.inl ⟨by rfl, ?_⟩) (fun _ => by assumption) ?_
    rotate_left
    · (intro W hSw; (try dsimp only at hSw); go_simp; try (with_reducible rfl))
    try simp only [Act.put, List.setIfInBounds_toArray, List.set_cons_zero, List.set_cons_succ]
    refine Rg.anyG_pure (i := 2) (oi := { dst := some 44, op := _, type := _, pos := _, after := _, guard := _ }) (v := ?_) rfl (by kernel_rfl) (by kernel_rfl) (by kernel_rfl) (by rfl) (fun _ _ _ h => h) (Or.inl ⟨by rfl, ?_⟩) (fun _ => by assumption) ?_
    rotate_left
    · (intro W hSw; (try dsimp only at hSw); go_simp; try (with_reducible rfl))
    try simp only [Act.put, List.setIfInBounds_toArray, List.set_cons_zero, List.set_cons_succ]
    refine Rg.anyG_pure (i := 3) (oi := { dst := some 45, op := _, type := _, pos := _, after := _, guard := _ }) (v := ?_) rfl (by kernel_rfl) (by kernel_rfl) (by kernel_rfl) (by rfl) (fun _ _ _ h => h) (Or.inl ⟨by rfl, ?_⟩) (fun _ => by assumption) ?_
    rotate_left
    · (intro W hSw; (try dsimp only at hSw); go_simp; try (with_reducible rfl))
    try simp only [Act.put, List.setIfInBounds_toArray, List.set_cons_zero, List.set_cons_succ]
    refine Rg.anyG_take (i := 4) (oi := { dst := some 46, op := _, type := _, pos := _, after := _, guard := _ }) (v := .slice ra rn rc) rfl (by kernel_rfl) (by kernel_rfl) (by kernel_rfl) [10] (by kernel_rfl) (fun _ _ _ h => h) (Or.inl ⟨by rfl, ?_⟩) (by assumption) ?_
    · (intro W hSw; (try dsimp only at hSw); (obtain ⟨s0, s1⟩ := hSw; clear s1; go_simp))
    try simp only [Act.put, List.setIfInBounds_toArray, List.set_cons_zero, List.set_cons_succ]
    refine Rg.anyG_take (i := 5) (oi := { dst := some 47, op := _, type := _, pos := _, after := _, guard := _ }) (v := .agg #[.int .i64 er, .int .i64 sq, .int .i64 n, .slice none 0 0, .slice none 0 0, .slice none 0 0]) rfl (by kernel_rfl) (by kernel_rfl) (by kernel_rfl) [10] (by kernel_rfl) (fun _ _ _ h => h) (Or.inl ⟨by rfl, ?_⟩) (by assumption) ?_
    · (intro W hSw; (try dsimp only at hSw); exact Gk.run_ld rfl rfl hSw.2)
    try simp only [Act.put, List.setIfInBounds_toArray, List.set_cons_zero, List.set_cons_succ]
    refine Rg.anyG_ready (rs := [6]) (by kernel_rfl) (by simp) ?_
    refine (Rg.AllG.cons (o := { dst := some 48, op := _, type := _, pos := _, after := _, guard := _ }) rfl (fun K hK => ?_) Rg.AllG.nil)
    go_simp
    refine hK.out _ _ ?_ (fun hHeld => ?_)
    · exact HS6.out _ (HX11.out.alloc _) (HY11.out.alloc _)
    clear hK K
    try simp only [Act.put, List.setIfInBounds_toArray, List.set_cons_zero, List.set_cons_succ]
    have HX12 : Hid (Bx (V11.alloc (.cells #[.int .i64 er, .int .i64 sq, .int .i64 n, .slice none 0 0, .slice none 0 0, .slice none 0 0] 37)) B (Xc (kl s) { a with asks := false } (.map (some m))) 57) := mkH (HX11.out.alloc _)
    have HY12 : Hid (Bx (V11.alloc (.cells #[.int .i64 er, .int .i64 sq, .int .i64 n, .slice none 0 0, .slice none 0 0, .slice none 0 0] 37)) nb (Rz er sq n) 37) := mkH (HY11.out.alloc _)
    have HR12 : Hid ((V11.alloc (.cells #[.int .i64 er, .int .i64 sq, .int .i64 n, .slice none 0 0, .slice none 0 0, .slice none 0 0] 37)).ownsRow base 37 6 (.slice ra rn rc) rn (Nr.Fl cP rs)) := mkH (Nr.own_below HR11.out ((Below.refl _ _).alloc (Nat.le_refl _) _))
    have HSR : Hid (Src Try.prog 6 55 (.slice (some ⟨V11.heap.size, 0, none⟩) 1 1) 1 (Nr.Fl cP [(er, sq, n)]) (V11.alloc (.cells #[.int .i64 er, .int .i64 sq, .int .i64 n, .slice none 0 0, .slice none 0 0, .slice none 0 0] 37))) := mkH (Nr.src_new cP_len cP_one (by decide) (P := Try.prog) Try.underlying55 V11 (er, sq, n) 37)
    have HZ12 : Hid (base ≤ (V11.alloc (.cells #[.int .i64 er, .int .i64 sq, .int .i64 n, .slice none 0 0, .slice none 0 0, .slice none 0 0] 37)).heap.size) := mkH (by have h1 := HZ11.out; simp; omega)
    have HF12 : Hid (Fr (fun q => q = B) w (V11.alloc (.cells #[.int .i64 er, .int .i64 sq, .int .i64 n, .slice none 0 0, .slice none 0 0, .slice none 0 0] 37))) := mkH (HF11.out.alloc _)
    clear hHeld HX11 HY11 HR11 HZ11 HF11
    refine Rg.anyG_ready (rs := [7]) (by kernel_rfl) (by simp) ?_
    refine (Rg.AllG.cons (o := { dst := some 49, op := _, type := _, pos := _, after := _, guard := _ }) rfl (fun K hK => ?_) Rg.AllG.nil)
    refine step_append_own_src (by rfl) (.tmp 46) (.tmp 48) 55 55 (by rfl) base 37 (.agg #[.int .i64 0, .int .i64 0, .int .i64 0, .slice none 0 0, .slice none 0 0, .slice none 0 0]) 6 96 Try.underlying55 infoPz (by rfl) (by decide) (.slice ra rn rc) rn (Nr.Fl cP rs) (by rfl) (by exact HR12.out) (.slice (some ⟨V11.heap.size, 0, none⟩) 1 1) 1 (Nr.Fl cP [(er, sq, n)]) (by rfl) (by exact HSR.out) (by unfold maxLen; omega) (by omega) (by exact HZ12.out) ?_
    intro v2 w8 hown2 hgrow2
    have hform := own_form hown2
    obtain ⟨a8, k8, rfl⟩ := hform
    have HX8 := mkH (HX12.out.fr (Gf.fr_grown hgrow2) (fun hq => HKB.out _ hq rfl))
    have HY8 := mkH (HY12.out.fr (Gf.fr_grown hgrow2) (fun hq => by have h1 := HKL.out _ hq; have h2 := HNB9.out; omega))
    have HR8 := mkH hown2
    have HF8 := mkH ((HF12.out.mono (G := (fun q => q = B ∨ (Value.slice ra rn rc).ownBlock = some q)) (fun i hi => .inl hi)).trans ((Gf.fr_grown hgrow2).mono (G := (fun q => q = B ∨ (Value.slice ra rn rc).ownBlock = some q)) (fun i hi => .inr hi)) (fun i hi => .inl hi))
    clear hown2 hgrow2
    refine hK.out _ _ ?_ (fun hHeld => ?_)
    · exact HS6.out _ HX8.out HY8.out
    clear hK K
    try simp only [Act.put, List.setIfInBounds_toArray, List.set_cons_zero, List.set_cons_succ]
    have c35 : w8.cell? ⟨B, 35, none⟩ = some (.slice ra rn rc) := hHeld.1
    have f35 := HX8.out.frozen 35
    refine Rg.anyG_pure (i := 8) (oi := { dst := some 50, op := _, type := _, pos := _, after := _, guard := _ }) (v := ?_) rfl (by kernel_rfl) (by kernel_rfl) (by kernel_rfl) (by rfl) (fun _ _ _ h => h) (Or.inl ⟨by rfl, ?_⟩) (fun _ => by assumption) ?_
    rotate_left
    · (intro W hSw; (try dsimp only at hSw); go_simp; try (with_reducible rfl))
    try simp only [Act.put, List.setIfInBounds_toArray, List.set_cons_zero, List.set_cons_succ]
    refine Rg.anyG_pure (i := 9) (oi := { dst := some 51, op := _, type := _, pos := _, after := _, guard := _ }) (v := ?_) rfl (by kernel_rfl) (by kernel_rfl) (by kernel_rfl) (by rfl) (fun _ _ _ h => h) (Or.inl ⟨by rfl, ?_⟩) (fun _ => by assumption) ?_
    rotate_left
    · (intro W hSw; (try dsimp only at hSw); go_simp; try (with_reducible rfl))
    try simp only [Act.put, List.setIfInBounds_toArray, List.set_cons_zero, List.set_cons_succ]
    refine Rg.anyG_ready (rs := [10]) (by kernel_rfl) (by simp) ?_
    refine Rg.AllG.last (o := { dst := none, op := _, type := _, pos := _, after := _, guard := _ }) rfl (by kernel_rfl) (fun K hK => ?_)
    go_simp
    refine hK.out _ _ ?_
    clear hK K
    try simp only [Act.put, List.setIfInBounds_toArray, List.set_cons_zero, List.set_cons_succ]
    refine Rg.anyG_done (by kernel_rfl) ?_ _
    have HX13 := mkH (Bx.setTo HX8.out (cs' := Xc (kl { s with reps := .slice a8 (rn + 1) k8 }) { a with asks := false } (.map (some m))) 35 (.slice a8 (rn + 1) k8) rfl)
    have HY13 := mkH (HY8.out.other (p := ⟨B, 35, none⟩) HNBB.out.symm (.slice a8 (rn + 1) k8))
    have HR13 := mkH (show World.ownsRow (w8.setCell ⟨B, 35, none⟩ (.slice a8 (rn + 1) k8)) base 37 6 (.slice a8 (rn + 1) k8) (rn + 1) (Nr.Fl cP rs ++ Nr.Fl cP [(er, sq, n)]) from Nr.own_fr HR8.out (HX8.out.frset 35 _) (fun k hk hq => Gk.own_ne HR8.out HX8.out hk (by decide) hq))
    have HF13 := mkH (HF8.out.trans ((HX8.out.frset 35 (.slice a8 (rn + 1) k8)).mono (G := (fun q => q = B ∨ (Value.slice ra rn rc).ownBlock = some q)) (fun i hi => .inl hi)) (fun i hi => .inl hi))
    clear hHeld HX8 HY8 HR8 HF8 c35 f35
    generalize w8.setCell ⟨B, 35, none⟩ (.slice a8 (rn + 1) k8) = V13 at *
    have HIO := mkH (isOver_ent HX13.out hsh (ao := ao) (ra := a8) (ne := ne) (cap := cap) (rn := rn + 1) (rc := k8) he rfl er sq n)
    go_wp2_with (first
      | (refine Gk.wpList_ld (ty := 37) (x := .tmp 4) (p := ⟨nb, 0, none⟩) (v := .agg (Rz er sq n)) rfl rfl rfl (load_rz HY13.out) ?_)
      | (refine HIO.out.mono ?_; rintro e2 V14 ⟨rfl, hb14⟩; have HX14 := mkH (HX13.out.bel hb14); have HR14 := mkH (Nr.own_below HR13.out hb14); have HF14 := mkH (HF13.out.trans (Fr.ofBelow hb14) (fun i hi => .inl hi)); have d33 : V14.cell? ⟨B, 33, none⟩ = some (.bool s.busy) := HX14.out.cell 33 _ rfl; have f33 := HX14.out.frozen 33; clear hb14))
    have hz := Bx.setTo HX14.out (cs' := Xc (kl { s with reps := .slice a8 (rn + 1) k8, busy := !decide (ne ≤ rn + 1) }) { a with asks := false } (.map (some m))) 33 (.bool (!decide (ne ≤ rn + 1))) rfl
    have hr14 := Nr.own_fr HR14.out (HX14.out.frset 33 (.bool (!decide (ne ≤ rn + 1)))) (fun k hk hq => Gk.own_ne HR14.out HX14.out hk (by decide) hq)
    rw [← Nr.Fl_append] at hr14
    exact bodyPost_end (v := .tuple #[]) (results_none rfl _ _ _) rfl ⟨rfl, a8, k8, hr14, hz, HF14.out.trans ((HX14.out.frset 33 (.bool (!decide (ne ≤ rn + 1)))).mono (G := (fun q => q = B ∨ (Value.slice ra rn rc).ownBlock = some q)) (fun i hi => .inl hi)) (fun i hi => .inl hi)⟩
  · go_simp
    refine hK.out _ _ ?_ (fun hHeld => ?_)
    · exact load_pk (HXB2.out.alloc _) HP.out.sz
    clear hK K
    try simp only [Act.put, List.setIfInBounds_toArray, List.set_cons_zero, List.set_cons_succ]
    have HYa : Hid (Bx (V2.alloc (.cells #[.int .i64 0, .int .i64 0, .int .i64 0, .slice none 0 0, .slice none 0 0, .slice none 0 0] 37)) V2.heap.size (Rz 0 0 0) 37) := mkH (Bx.new V2 _ _)
    have HXa : Hid (Bx (V2.alloc (.cells #[.int .i64 0, .int .i64 0, .int .i64 0, .slice none 0 0, .slice none 0 0, .slice none 0 0] 37)) B (Xc (kl s) a (.map (some m))) 57) := mkH (HX2.out.alloc _)
    have HXBa : Hid (Bx (V2.alloc (.cells #[.int .i64 0, .int .i64 0, .int .i64 0, .slice none 0 0, .slice none 0 0, .slice none 0 0] 37)) w.heap.size pv 42) := mkH (HXB2.out.alloc _)
    have HBa : Hid (Below w.heap.size w (V2.alloc (.cells #[.int .i64 0, .int .i64 0, .int .i64 0, .slice none 0 0, .slice none 0 0, .slice none 0 0] 37))) := mkH (HB2.out.alloc HB2.out.size _)
    have HNW : Hid (w.heap.size + 1 ≤ V2.heap.size) := mkH (by have := HXB2.out.lt; omega)
    have HNA : Hid (¬ V2.heap.size = B) := mkH (Nat.ne_of_gt HX2.out.lt)
    clear hHeld HX2 HXB2 HB2
    generalize V2.alloc (.cells #[.int .i64 0, .int .i64 0, .int .i64 0, .slice none 0 0, .slice none 0 0, .slice none 0 0] 37) = V2a at *
    generalize V2.heap.size = nb at *
    refine Rg.anyG_ready (rs := [4]) (by kernel_rfl) (by simp) ?_
    refine (Rg.AllG.cons (o := { dst := some 11, op := _, type := _, pos := _, after := _, guard := _ }) rfl (fun K hK => ?_) Rg.AllG.nil)
    go_simp
    refine (Recv_ans HXa.out HA.out hid HP.out HANS.out he15).mono ?_
    rintro e1 V9 ⟨rfl, hT⟩
    have HT9 := mkH hT.1
    have HY9 := mkH (HYa.out.fr hT.2 HNA.out)
    have HF9 := mkH ((Fr.ofBelow (F := fun q => q = B) HBa.out).trans hT.2 (fun i hi => .inl hi))
    have HNB9 : Hid (w.heap.size + 1 ≤ nb) := HNW
    have HXB9 := mkH (HXBa.out.fr hT.2 HBN.out)
    clear hT
    go_wp2_with fail
    refine hK.out _ _ ?_ (fun hHeld => ?_)
    · exact load_pk HXB9.out HP.out.sz
    clear hK K
    try simp only [Act.put, List.setIfInBounds_toArray, List.set_cons_zero, List.set_cons_succ]
    refine Rg.anyG_pure (i := 5) (oi := { dst := some 6, op := _, type := _, pos := _, after := _, guard := _ }) (v := ?_) rfl (by kernel_rfl) (by kernel_rfl) (by kernel_rfl) (by rfl) (fun _ _ _ h => h) (Or.inl ⟨by rfl, ?_⟩) (fun _ => by assumption) ?_
    rotate_left
    · (intro W hSw; (try dsimp only at hSw); go_simp; try (with_reducible rfl))
    try simp only [Act.put, List.setIfInBounds_toArray, List.set_cons_zero, List.set_cons_succ]
    refine Rg.anyG_pure (i := 6) (oi := { dst := some 12, op := _, type := _, pos := _, after := _, guard := _ }) (v := ?_) rfl (by kernel_rfl) (by kernel_rfl) (by kernel_rfl) (by rfl) (fun _ _ _ h => h) (Or.inl ⟨by rfl, ?_⟩) (fun _ => by assumption) ?_
    rotate_left
    · (intro W hSw; (try dsimp only at hSw); go_simp; try (with_reducible rfl))
    try simp only [Act.put, List.setIfInBounds_toArray, List.set_cons_zero, List.set_cons_succ]
    refine Rg.anyG_pure (i := 7) (oi := { dst := some 13, op := _, type := _, pos := _, after := _, guard := _ }) (v := ?_) rfl (by kernel_rfl) (by kernel_rfl) (by kernel_rfl) (by rfl) (fun _ _ _ h => h) (Or.inl ⟨by rfl, ?_⟩) (fun _ => by assumption) ?_
    rotate_left
    · (intro W hSw; (try dsimp only at hSw); go_simp; try (with_reducible rfl))
    try simp only [Act.put, List.setIfInBounds_toArray, List.set_cons_zero, List.set_cons_succ]
    refine Rg.anyG_ready (rs := [9]) (by kernel_rfl) (by simp) ?_
    refine Rg.AllG.last (o := { dst := none, op := _, type := _, pos := _, after := _, guard := _ }) rfl (by kernel_rfl) (fun K hK => ?_)
    refine Gk.step_st (K := fun a w => K a w) rfl 37 (.tmp 4) (.tmp 12) rfl nb (Rz er sq n) (Rz 0 0 0) 37 rfl rfl HY9.out infoRp rfl (Rz_one _ _ _) ?_
    refine hK.out _ _ ?_
    clear hK K
    try simp only [Act.put, List.setIfInBounds_toArray, List.set_cons_zero, List.set_cons_succ]
    refine Rg.anyG_pure (i := 10) (oi := { dst := some 5, op := _, type := _, pos := _, after := _, guard := _ }) (v := ?_) rfl (by kernel_rfl) (by kernel_rfl) (by kernel_rfl) (by rfl) (fun _ _ _ h => h) (Or.inl ⟨by rfl, ?_⟩) (fun h => absurd (h.symm.trans (show _ = true by kernel_rfl)) Bool.false_ne_true) ?_
    rotate_left
    · (intro W hSw; (try dsimp only at hSw); go_simp; try (with_reducible rfl))
    try simp only [Act.put, List.setIfInBounds_toArray, List.set_cons_zero, List.set_cons_succ]
    refine Rg.anyG_done (by kernel_rfl) ?_ _
    skip
    have HNBB : Hid (nb ≠ B) := mkH (by have h1 := HNB9.out; have h2 := HLT.out; omega)
    have HX10 := mkH (HT9.out.rowOther HNBB.out (Rz er sq n))
    have HY10 := mkH (HY9.out.row (cs := Rz er sq n))
    have HF10 := mkH (HF9.out.trans (Bx.frrow (b := nb) (w := V9) (Rz er sq n)) (fun i hi => .inr (by have h1 := HNB9.out; subst hi; omega)))
    clear HT9 HY9 HF9
    generalize V9.setRow nb (Rz er sq n) = V10 at *
    have HROW10 := mkH (Nr.own_fr HROWw.out HF10.out HKB.out)
    have c33 : V10.cell? ⟨B, 33, none⟩ = some (.bool true) := (HX10.out.cell 33 (.bool s.busy) rfl).trans (congrArg (fun t => some (Value.bool t)) hb)
    have y0 : V10.cell? ⟨nb, 0, none⟩ = some (.int .i64 er) := HY10.out.cell 0 _ rfl
    have hb14 : (er == 14) = false := by simpa using he14
    go_wp2_with fail
    refine Rg.region_G hmx 10 (fun W => W.cell? ⟨B, 35, none⟩ = some (.slice ra rn rc) ∧ (loadVar 37 ⟨nb, 0, none⟩).run Try.prog W = .ok (.agg #[.int .i64 er, .int .i64 sq, .int .i64 n, .slice none 0 0, .slice none 0 0, .slice none 0 0]) W) (HS6.out _ (show Bx V10.drew B (Xc (kl s) { a with asks := false } (.map (some m))) 57 from HX10.out) (show Bx V10.drew nb (Rz er sq n) 37 from HY10.out)) (fun hHeld => ?_)
    have HX11 := mkH (show Bx V10.drew B (Xc (kl s) { a with asks := false } (.map (some m))) 57 from HX10.out)
    have HY11 := mkH (show Bx V10.drew nb (Rz er sq n) 37 from HY10.out)
    have HR11 := mkH (show V10.drew.ownsRow base 37 6 (.slice ra rn rc) rn (Nr.Fl cP rs) from Nr.own_below HROW10.out (Below.refl _ _).drew)
    have HZ11 : Hid (w.heap.size ≤ V10.drew.heap.size) := mkH HF10.out.size
    have HF11 := mkH (HF10.out.trans (Fr.ofBelow (F := fun q => q = B) (Below.refl V10.heap.size V10).drew) (fun i hi => .inl hi))
    clear HX10 HY10 HROW10 HF10 c33 y0 hb14
    generalize V10.drew = V11 at *
    refine Rg.anyG_pure (i := 0) (oi := { dst := some 42, op := _, type := _, pos := _, after := _, guard := _ }) (v := ?_) rfl (by kernel_rfl) (by kernel_rfl) (by kernel_rfl) (by rfl) (fun _ _ _ h => h) (Or.inl ⟨by rfl, ?_⟩) (fun _ => by assumption) ?_
    rotate_left
    · (intro W hSw; (try dsimp only at hSw); go_simp; try (with_reducible rfl))
    try simp only [Act.put, List.setIfInBounds_toArray, List.set_cons_zero, List.set_cons_succ]
    refine Rg.anyG_pure (i := 1) (oi := { dst := some 43, op := _, type := _, pos := _, after := _, guard := _ }) (v := ?_) rfl (by kernel_rfl) (by kernel_rfl) (by kernel_rfl) (by rfl) (fun _ _ _ h => h) (Or.inl ⟨by rfl, ?_⟩) (fun _ => by assumption) ?_
    rotate_left
    · (intro W hSw; (try dsimp only at hSw); go_simp; try (with_reducible rfl))
    try simp only [Act.put, List.setIfInBounds_toArray, List.set_cons_zero, List.set_cons_succ]
    refine Rg.anyG_pure (i := 2) (oi := { dst := some 44, op := _, type := _, pos := _, after := _, guard := _ }) (v := ?_) rfl (by kernel_rfl) (by kernel_rfl) (by kernel_rfl) (by rfl) (fun _ _ _ h => h) (Or.inl ⟨by rfl, ?_⟩) (fun _ => by assumption) ?_
    rotate_left
    · (intro W hSw; (try dsimp only at hSw); go_simp; try (with_reducible rfl))
    try simp only [Act.put, List.setIfInBounds_toArray, List.set_cons_zero, List.set_cons_succ]
    refine Rg.anyG_pure (i := 3) (oi := { dst := some 45, op := _, type := _, pos := _, after := _, guard := _ }) (v := ?_) rfl (by kernel_rfl) (by kernel_rfl) (by kernel_rfl) (by rfl) (fun _ _ _ h => h) (Or.inl ⟨by rfl, ?_⟩) (fun _ => by assumption) ?_
    rotate_left
    · (intro W hSw; (try dsimp only at hSw); go_simp; try (with_reducible rfl))
    try simp only [Act.put, List.setIfInBounds_toArray, List.set_cons_zero, List.set_cons_succ]
    refine Rg.anyG_take (i := 4) (oi := { dst := some 46, op := _, type := _, pos := _, after := _, guard := _ }) (v := .slice ra rn rc) rfl (by kernel_rfl) (by kernel_rfl) (by kernel_rfl) [10] (by kernel_rfl) (fun _ _ _ h => h) (Or.inl ⟨by rfl, ?_⟩) (by assumption) ?_
    · (intro W hSw; (try dsimp only at hSw); (obtain ⟨s0, s1⟩ := hSw; clear s1; go_simp))
    try simp only [Act.put, List.setIfInBounds_toArray, List.set_cons_zero, List.set_cons_succ]
    refine Rg.anyG_take (i := 5) (oi := { dst := some 47, op := _, type := _, pos := _, after := _, guard := _ }) (v := .agg #[.int .i64 er, .int .i64 sq, .int .i64 n, .slice none 0 0, .slice none 0 0, .slice none 0 0]) rfl (by kernel_rfl) (by kernel_rfl) (by kernel_rfl) [10] (by kernel_rfl) (fun _ _ _ h => h) (Or.inl ⟨by rfl, ?_⟩) (by assumption) ?_
    · (intro W hSw; (try dsimp only at hSw); exact Gk.run_ld rfl rfl hSw.2)
    try simp only [Act.put, List.setIfInBounds_toArray, List.set_cons_zero, List.set_cons_succ]
    refine Rg.anyG_ready (rs := [6]) (by kernel_rfl) (by simp) ?_
    refine (Rg.AllG.cons (o := { dst := some 48, op := _, type := _, pos := _, after := _, guard := _ }) rfl (fun K hK => ?_) Rg.AllG.nil)
    go_simp
    refine hK.out _ _ ?_ (fun hHeld => ?_)
    · exact HS6.out _ (HX11.out.alloc _) (HY11.out.alloc _)
    clear hK K
    try simp only [Act.put, List.setIfInBounds_toArray, List.set_cons_zero, List.set_cons_succ]
    have HX12 : Hid (Bx (V11.alloc (.cells #[.int .i64 er, .int .i64 sq, .int .i64 n, .slice none 0 0, .slice none 0 0, .slice none 0 0] 37)) B (Xc (kl s) { a with asks := false } (.map (some m))) 57) := mkH (HX11.out.alloc _)
    have HY12 : Hid (Bx (V11.alloc (.cells #[.int .i64 er, .int .i64 sq, .int .i64 n, .slice none 0 0, .slice none 0 0, .slice none 0 0] 37)) nb (Rz er sq n) 37) := mkH (HY11.out.alloc _)
    have HR12 : Hid ((V11.alloc (.cells #[.int .i64 er, .int .i64 sq, .int .i64 n, .slice none 0 0, .slice none 0 0, .slice none 0 0] 37)).ownsRow base 37 6 (.slice ra rn rc) rn (Nr.Fl cP rs)) := mkH (Nr.own_below HR11.out ((Below.refl _ _).alloc (Nat.le_refl _) _))
    have HSR : Hid (Src Try.prog 6 55 (.slice (some ⟨V11.heap.size, 0, none⟩) 1 1) 1 (Nr.Fl cP [(er, sq, n)]) (V11.alloc (.cells #[.int .i64 er, .int .i64 sq, .int .i64 n, .slice none 0 0, .slice none 0 0, .slice none 0 0] 37))) := mkH (Nr.src_new cP_len cP_one (by decide) (P := Try.prog) Try.underlying55 V11 (er, sq, n) 37)
    have HZ12 : Hid (base ≤ (V11.alloc (.cells #[.int .i64 er, .int .i64 sq, .int .i64 n, .slice none 0 0, .slice none 0 0, .slice none 0 0] 37)).heap.size) := mkH (by have h1 := HZ11.out; simp; omega)
    have HF12 : Hid (Fr (fun q => q = B) w (V11.alloc (.cells #[.int .i64 er, .int .i64 sq, .int .i64 n, .slice none 0 0, .slice none 0 0, .slice none 0 0] 37))) := mkH (HF11.out.alloc _)
    clear hHeld HX11 HY11 HR11 HZ11 HF11
    refine Rg.anyG_ready (rs := [7]) (by kernel_rfl) (by simp) ?_
    refine (Rg.AllG.cons (o := { dst := some 49, op := _, type := _, pos := _, after := _, guard := _ }) rfl (fun K hK => ?_) Rg.AllG.nil)
    refine step_append_own_src (by rfl) (.tmp 46) (.tmp 48) 55 55 (by rfl) base 37 (.agg #[.int .i64 0, .int .i64 0, .int .i64 0, .slice none 0 0, .slice none 0 0, .slice none 0 0]) 6 96 Try.underlying55 infoPz (by rfl) (by decide) (.slice ra rn rc) rn (Nr.Fl cP rs) (by rfl) (by exact HR12.out) (.slice (some ⟨V11.heap.size, 0, none⟩) 1 1) 1 (Nr.Fl cP [(er, sq, n)]) (by rfl) (by exact HSR.out) (by unfold maxLen; omega) (by omega) (by exact HZ12.out) ?_
    intro v2 w8 hown2 hgrow2
    have hform := own_form hown2
    obtain ⟨a8, k8, rfl⟩ := hform
    have HX8 := mkH (HX12.out.fr (Gf.fr_grown hgrow2) (fun hq => HKB.out _ hq rfl))
    have HY8 := mkH (HY12.out.fr (Gf.fr_grown hgrow2) (fun hq => by have h1 := HKL.out _ hq; have h2 := HNB9.out; omega))
    have HR8 := mkH hown2
    have HF8 := mkH ((HF12.out.mono (G := (fun q => q = B ∨ (Value.slice ra rn rc).ownBlock = some q)) (fun i hi => .inl hi)).trans ((Gf.fr_grown hgrow2).mono (G := (fun q => q = B ∨ (Value.slice ra rn rc).ownBlock = some q)) (fun i hi => .inr hi)) (fun i hi => .inl hi))
    clear hown2 hgrow2
    refine hK.out _ _ ?_ (fun hHeld => ?_)
    · exact HS6.out _ HX8.out HY8.out
    clear hK K
    try simp only [Act.put, List.setIfInBounds_toArray, List.set_cons_zero, List.set_cons_succ]
    have c35 : w8.cell? ⟨B, 35, none⟩ = some (.slice ra rn rc) := hHeld.1
    have f35 := HX8.out.frozen 35
    refine Rg.anyG_pure (i := 8) (oi := { dst := some 50, op := _, type := _, pos := _, after := _, guard := _ }) (v := ?_) rfl (by kernel_rfl) (by kernel_rfl) (by kernel_rfl) (by rfl) (fun _ _ _ h => h) (Or.inl ⟨by rfl, ?_⟩) (fun _ => by assumption) ?_
    rotate_left
    · (intro W hSw; (try dsimp only at hSw); go_simp; try (with_reducible rfl))
    try simp only [Act.put, List.setIfInBounds_toArray, List.set_cons_zero, List.set_cons_succ]
    refine Rg.anyG_pure (i := 9) (oi := { dst := some 51, op := _, type := _, pos := _, after := _, guard := _ }) (v := ?_) rfl (by kernel_rfl) (by kernel_rfl) (by kernel_rfl) (by rfl) (fun _ _ _ h => h) (Or.inl ⟨by rfl, ?_⟩) (fun _ => by assumption) ?_
    rotate_left
    · (intro W hSw; (try dsimp only at hSw); go_simp; try (with_reducible rfl))
    try simp only [Act.put, List.setIfInBounds_toArray, List.set_cons_zero, List.set_cons_succ]
    refine Rg.anyG_ready (rs := [10]) (by kernel_rfl) (by simp) ?_
    refine Rg.AllG.last (o := { dst := none, op := _, type := _, pos := _, after := _, guard := _ }) rfl (by kernel_rfl) (fun K hK => ?_)
    go_simp
    refine hK.out _ _ ?_
    clear hK K
    try simp only [Act.put, List.setIfInBounds_toArray, List.set_cons_zero, List.set_cons_succ]
    refine Rg.anyG_done (by kernel_rfl) ?_ _
    have HX13 := mkH (Bx.setTo HX8.out (cs' := Xc (kl { s with reps := .slice a8 (rn + 1) k8 }) { a with asks := false } (.map (some m))) 35 (.slice a8 (rn + 1) k8) rfl)
    have HY13 := mkH (HY8.out.other (p := ⟨B, 35, none⟩) HNBB.out.symm (.slice a8 (rn + 1) k8))
    have HR13 := mkH (show World.ownsRow (w8.setCell ⟨B, 35, none⟩ (.slice a8 (rn + 1) k8)) base 37 6 (.slice a8 (rn + 1) k8) (rn + 1) (Nr.Fl cP rs ++ Nr.Fl cP [(er, sq, n)]) from Nr.own_fr HR8.out (HX8.out.frset 35 _) (fun k hk hq => Gk.own_ne HR8.out HX8.out hk (by decide) hq))
    have HF13 := mkH (HF8.out.trans ((HX8.out.frset 35 (.slice a8 (rn + 1) k8)).mono (G := (fun q => q = B ∨ (Value.slice ra rn rc).ownBlock = some q)) (fun i hi => .inl hi)) (fun i hi => .inl hi))
    clear hHeld HX8 HY8 HR8 HF8 c35 f35
    generalize w8.setCell ⟨B, 35, none⟩ (.slice a8 (rn + 1) k8) = V13 at *
    have HIO := mkH (isOver_ent HX13.out hsh (ao := ao) (ra := a8) (ne := ne) (cap := cap) (rn := rn + 1) (rc := k8) he rfl er sq n)
    go_wp2_with (first
      | (refine Gk.wpList_ld (ty := 37) (x := .tmp 4) (p := ⟨nb, 0, none⟩) (v := .agg (Rz er sq n)) rfl rfl rfl (load_rz HY13.out) ?_)
      | (refine HIO.out.mono ?_; rintro e2 V14 ⟨rfl, hb14⟩; have HX14 := mkH (HX13.out.bel hb14); have HR14 := mkH (Nr.own_below HR13.out hb14); have HF14 := mkH (HF13.out.trans (Fr.ofBelow hb14) (fun i hi => .inl hi)); have d33 : V14.cell? ⟨B, 33, none⟩ = some (.bool s.busy) := HX14.out.cell 33 _ rfl; have f33 := HX14.out.frozen 33; clear hb14))
    have hz := Bx.setTo HX14.out (cs' := Xc (kl { s with reps := .slice a8 (rn + 1) k8, busy := !decide (ne ≤ rn + 1) }) { a with asks := false } (.map (some m))) 33 (.bool (!decide (ne ≤ rn + 1))) rfl
    have hr14 := Nr.own_fr HR14.out (HX14.out.frset 33 (.bool (!decide (ne ≤ rn + 1)))) (fun k hk hq => Gk.own_ne HR14.out HX14.out hk (by decide) hq)
    rw [← Nr.Fl_append] at hr14
    exact bodyPost_end (v := .tuple #[]) (results_none rfl _ _ _) rfl ⟨rfl, a8, k8, hr14, hz, HF14.out.trans ((HX14.out.frset 33 (.bool (!decide (ne ≤ rn + 1)))).mono (G := (fun q => q = B ∨ (Value.slice ra rn rc).ownBlock = some q)) (fun i hi => .inl hi)) (fun i hi => .inl hi)⟩
end Go.Proofs.Ytabckkepkennhaa.Fj
