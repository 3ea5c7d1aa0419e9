/-
  begin: what a client asks for, for an entry. Written by gen_frq.py.
-/
import Derived.Test.YtabckkepkennhaaFrN
import Derived.Test.YtabckkepkennhaaRgG
namespace Go.Proofs.Ytabckkepkennhaa.Fq
open Go.RowKit Kt Gf Gk Fp Fa Fb Fc Fe Fl Go.Proofs.Ytabckkepkennhaa.Fn
open Nr (RowS)
open Cr (RdP)
open Cp (Pc ofL)
set_option linter.unusedVariables false
set_option linter.unusedSimpArgs false
set_option maxRecDepth 20000

section
variable {P : Program} {w : World} {ops : Array Oper} {rest : List Oper} {o : Oper} {a : Act} {Q : Exit → Act → World → Prop}
theorem step_stp {K : Act → World → Prop} {E : Prop} (hg : o.guard = none) (ty : TypeId) (x y : Operand) (ho : o.op = .store ty x y) (b off : Nat) (cs cs' ds : Array Value) (t : TypeId) (hx : a.eval x = .pointer (some ⟨b, off, none⟩)) (hy : a.eval y = .agg ds) (hB : Bx w b cs t) (hi : (P.info? ty).map (·.size) = some ds.size) (hl : off + ds.size ≤ cs.size) (h1 : ds.all (fun x => x.oneCell') = true)
    (he : (cs.toList.take off ++ ds.toList ++ cs.toList.drop (off + ds.size)).toArray = cs')
    (hK : K (a.put o.dst undef) (w.setRow b cs')) : if Region.wanted o (yielded ops a.tmps) = true then Oper.wp P o a w K Q else E := by
  have hw : Region.wanted o (yielded ops a.tmps) = true := by simp [Region.wanted, hg]
  rw [if_pos hw]
  have hr := run_stp (P := P) hB (ty := ty) off ds hi hl h1 he
  unfold Oper.wp execOp
  simp only [ho, hx, hy, Instr.storeAt, Instr.sureAddr, Sem.run_bind, Sem.run_pure, Result.andThen_ok, hr]
  exact hK
end
theorem infoRc : (Try.prog.info? 27).map (·.size) = some 4 := by kernel_rfl
/-- What a step asks for. -/
def cm0 (s : Ks) : Cm := { Cm.none with k := s.kind, queue := s.queue, attempt := s.att, mx := s.mx, secs := s.secs }
def cmE (s : Ks) (x : En) : Cm := { cm0 s with group := x.g, body := x.b, token := x.t, rq := x.rq, rg := x.rg, rs := x.rs, rc := x.rc }
set_option maxHeartbeats 4000000 in
theorem begin_ent {w : World} {B m : Nat} {a : As} {s : Ks} (h : Bx w B (Xc (kl s) a (.map (some m))) 57) (hsh : ofSh s.kind = false) (ha : a.asks = false) (hnu : 0 ≤ a.c.num ∧ a.c.num ≤ 1000000) {ao ra po : Option Addr} {cap rn rc pc : Nat} {es : List En} {ps : List Pc} (he : s.ent = .slice ao es.length cap) (hr : s.reps = .slice ra rn rc) (hpc : s.pcs = .slice po ps.length pc) (hrow : RowS 7 cE w ao es) (hps : RdP w po pc ps) {x : En} (hx : es[rn]? = some x) (hl : es.length ≤ 1000000000) (hpl : ps.length ≤ 100000)
    (hz : x.g.size ≤ 9223372036854775807 ∧ x.rg.size ≤ 9223372036854775807) (hgr : 0 ≤ ofL ps (plE s.kind x) ∧ ofL ps (plE s.kind x) ≤ 6) :
    Calls Try.prog 32 #[.pointer (some ⟨B, 0, none⟩)] w fun e w' => e = .returned (.tuple #[]) ∧
      Tn w B (Xc (kl s) { a with group := ofL ps (plE s.kind x), c := { cmE s x with client := a.id, num := a.c.num + 1 }, asks := true, sent := false } (.map (some m))) 57 w' := by
  have hmx : Try.prog.follows .mixedOrders = true := by kernel_rfl
  have HSV := mkH (fun W (hb : Below w.heap.size w W) (hX : Bx W B (Xc (kl s) a (.map (some m))) 57) => server_any hX he hr hpc (hrow.below hb) (hps.below hb) hx hl hpl hz)
  have HEN := mkH (fun W (hb : Below w.heap.size w W) (hX : Bx W B (Xc (kl s) a (.map (some m))) 57) => entry_any hX he hr (hrow.below hb) hx hl)
  have HSH := isOfShards_any
  have HAS := mkH ha
  have HNU := mkH hnu
  have HGR := mkH hgr
  have HL := mkH h.lt
  have HSK := mkH hsh
  clear HSH
  clear hrow hps hz hgr ha hnu hsh
  go_enter Try.func32, Try.ntmps32
  go_wp2_with fail
  refine wp_region_held_drew (S := fun W => Bx W B (Xc (kl s) a (.map (some m))) 57 ∧ Below w.heap.size w W) hmx ⟨h, (Below.refl _ w).drew⟩ (fun hHeld => ?_)
  have HH := mkH hHeld
  clear hHeld
  generalize w.drew = V0 at *
  refine wpAnyH_take (i := 0) (oi := { dst := some 4, op := _, type := _, pos := _, after := _, guard := _ }) (v := ?_) rfl (by kernel_rfl) (by kernel_rfl) (by kernel_rfl) (fun _ _ _ h => h) (Or.inl ⟨by rfl, ?_⟩) (by assumption) ?_
  rotate_left
  · (intro W hSw; (try dsimp only at hSw); go_simp; try (with_reducible rfl))
  try simp only [Act.put, List.setIfInBounds_toArray, List.set_cons_zero, List.set_cons_succ]
  refine wpAnyH_take (i := 1) (oi := { dst := some 5, op := _, type := _, pos := _, after := _, guard := _ }) (v := ?_) rfl (by kernel_rfl) (by kernel_rfl) (by kernel_rfl) (fun _ _ _ h => h) (Or.inl ⟨by rfl, ?_⟩) (by assumption) ?_
  rotate_left
  · (intro W hSw; (try dsimp only at hSw); go_simp; try (with_reducible rfl))
  try simp only [Act.put, List.setIfInBounds_toArray, List.set_cons_zero, List.set_cons_succ]
  refine wpAnyH_take (i := 2) (oi := { dst := some 6, op := _, type := _, pos := _, after := _, guard := _ }) (v := ?_) rfl (by kernel_rfl) (by kernel_rfl) (by kernel_rfl) (fun _ _ _ h => h) (Or.inl ⟨by rfl, ?_⟩) (by assumption) ?_
  rotate_left
  · (intro W hSw; (try dsimp only at hSw); go_simp; try (with_reducible rfl))
  try simp only [Act.put, List.setIfInBounds_toArray, List.set_cons_zero, List.set_cons_succ]
  refine wpAnyH_take (i := 3) (oi := { dst := some 7, op := _, type := _, pos := _, after := _, guard := _ }) (v := ?_) rfl (by kernel_rfl) (by kernel_rfl) (by kernel_rfl) (fun _ _ _ h => h) (Or.inl ⟨by rfl, ?_⟩) (by assumption) ?_
  rotate_left
  · (intro W hSw; (try dsimp only at hSw); go_simp; try (with_reducible rfl))
  try simp only [Act.put, List.setIfInBounds_toArray, List.set_cons_zero, List.set_cons_succ]
  refine wpAnyH_take (i := 4) (oi := { dst := some 8, op := _, type := _, pos := _, after := _, guard := _ }) (v := .int .i64 s.kind) rfl (by kernel_rfl) (by kernel_rfl) (by kernel_rfl) (fun _ _ _ h => h) (Or.inl ⟨by rfl, ?_⟩) (by assumption) ?_
  · (intro W hSw; (try dsimp only at hSw); (have c27 : W.cell? ⟨B, 27, none⟩ = some (.int .i64 s.kind) := hSw.1.cell 27 _ rfl; go_simp))
  try simp only [Act.put, List.setIfInBounds_toArray, List.set_cons_zero, List.set_cons_succ]
  refine wpAnyH_take (i := 5) (oi := { dst := some 9, op := _, type := _, pos := _, after := _, guard := _ }) (v := ?_) rfl (by kernel_rfl) (by kernel_rfl) (by kernel_rfl) (fun _ _ _ h => h) (Or.inl ⟨by rfl, ?_⟩) (by assumption) ?_
  rotate_left
  · (intro W hSw; (try dsimp only at hSw); go_simp; try (with_reducible rfl))
  try simp only [Act.put, List.setIfInBounds_toArray, List.set_cons_zero, List.set_cons_succ]
  refine wpAnyH_take (i := 6) (oi := { dst := some 10, op := _, type := _, pos := _, after := _, guard := _ }) (v := ?_) rfl (by kernel_rfl) (by kernel_rfl) (by kernel_rfl) (fun _ _ _ h => h) (Or.inl ⟨by rfl, ?_⟩) (by assumption) ?_
  rotate_left
  · (intro W hSw; (try dsimp only at hSw); go_simp; try (with_reducible rfl))
  try simp only [Act.put, List.setIfInBounds_toArray, List.set_cons_zero, List.set_cons_succ]
  refine wpAnyH_take (i := 7) (oi := { dst := some 11, op := _, type := _, pos := _, after := _, guard := _ }) (v := ?_) rfl (by kernel_rfl) (by kernel_rfl) (by kernel_rfl) (fun _ _ _ h => h) (Or.inl ⟨by rfl, ?_⟩) (by assumption) ?_
  rotate_left
  · (intro W hSw; (try dsimp only at hSw); go_simp; try (with_reducible rfl))
  try simp only [Act.put, List.setIfInBounds_toArray, List.set_cons_zero, List.set_cons_succ]
  refine wpAnyH_take (i := 8) (oi := { dst := some 12, op := _, type := _, pos := _, after := _, guard := _ }) (v := ?_) rfl (by kernel_rfl) (by kernel_rfl) (by kernel_rfl) (fun _ _ _ h => h) (Or.inl ⟨by rfl, ?_⟩) (by assumption) ?_
  rotate_left
  · (intro W hSw; (try dsimp only at hSw); go_simp; try (with_reducible rfl))
  try simp only [Act.put, List.setIfInBounds_toArray, List.set_cons_zero, List.set_cons_succ]
  refine wpAnyH_take (i := 9) (oi := { dst := some 13, op := _, type := _, pos := _, after := _, guard := _ }) (v := .int .i64 s.queue) rfl (by kernel_rfl) (by kernel_rfl) (by kernel_rfl) (fun _ _ _ h => h) (Or.inl ⟨by rfl, ?_⟩) (by assumption) ?_
  · (intro W hSw; (try dsimp only at hSw); (have c28 : W.cell? ⟨B, 28, none⟩ = some (.int .i64 s.queue) := hSw.1.cell 28 _ rfl; go_simp))
  try simp only [Act.put, List.setIfInBounds_toArray, List.set_cons_zero, List.set_cons_succ]
  refine wpAnyH_take (i := 10) (oi := { dst := some 14, op := _, type := _, pos := _, after := _, guard := _ }) (v := ?_) rfl (by kernel_rfl) (by kernel_rfl) (by kernel_rfl) (fun _ _ _ h => h) (Or.inl ⟨by rfl, ?_⟩) (by assumption) ?_
  rotate_left
  · (intro W hSw; (try dsimp only at hSw); go_simp; try (with_reducible rfl))
  try simp only [Act.put, List.setIfInBounds_toArray, List.set_cons_zero, List.set_cons_succ]
  refine wpAnyH_take (i := 11) (oi := { dst := some 15, op := _, type := _, pos := _, after := _, guard := _ }) (v := ?_) rfl (by kernel_rfl) (by kernel_rfl) (by kernel_rfl) (fun _ _ _ h => h) (Or.inl ⟨by rfl, ?_⟩) (by assumption) ?_
  rotate_left
  · (intro W hSw; (try dsimp only at hSw); go_simp; try (with_reducible rfl))
  try simp only [Act.put, List.setIfInBounds_toArray, List.set_cons_zero, List.set_cons_succ]
  refine wpAnyH_take (i := 12) (oi := { dst := some 16, op := _, type := _, pos := _, after := _, guard := _ }) (v := ?_) rfl (by kernel_rfl) (by kernel_rfl) (by kernel_rfl) (fun _ _ _ h => h) (Or.inl ⟨by rfl, ?_⟩) (by assumption) ?_
  rotate_left
  · (intro W hSw; (try dsimp only at hSw); go_simp; try (with_reducible rfl))
  try simp only [Act.put, List.setIfInBounds_toArray, List.set_cons_zero, List.set_cons_succ]
  refine wpAnyH_take (i := 13) (oi := { dst := some 17, op := _, type := _, pos := _, after := _, guard := _ }) (v := ?_) rfl (by kernel_rfl) (by kernel_rfl) (by kernel_rfl) (fun _ _ _ h => h) (Or.inl ⟨by rfl, ?_⟩) (by assumption) ?_
  rotate_left
  · (intro W hSw; (try dsimp only at hSw); go_simp; try (with_reducible rfl))
  try simp only [Act.put, List.setIfInBounds_toArray, List.set_cons_zero, List.set_cons_succ]
  refine wpAnyH_take (i := 14) (oi := { dst := some 18, op := _, type := _, pos := _, after := _, guard := _ }) (v := .int .i64 s.mx) rfl (by kernel_rfl) (by kernel_rfl) (by kernel_rfl) (fun _ _ _ h => h) (Or.inl ⟨by rfl, ?_⟩) (by assumption) ?_
  · (intro W hSw; (try dsimp only at hSw); (have c29 : W.cell? ⟨B, 29, none⟩ = some (.int .i64 s.mx) := hSw.1.cell 29 _ rfl; go_simp))
  try simp only [Act.put, List.setIfInBounds_toArray, List.set_cons_zero, List.set_cons_succ]
  refine wpAnyH_take (i := 15) (oi := { dst := some 19, op := _, type := _, pos := _, after := _, guard := _ }) (v := ?_) rfl (by kernel_rfl) (by kernel_rfl) (by kernel_rfl) (fun _ _ _ h => h) (Or.inl ⟨by rfl, ?_⟩) (by assumption) ?_
  rotate_left
  · (intro W hSw; (try dsimp only at hSw); go_simp; try (with_reducible rfl))
  try simp only [Act.put, List.setIfInBounds_toArray, List.set_cons_zero, List.set_cons_succ]
  refine wpAnyH_take (i := 16) (oi := { dst := some 20, op := _, type := _, pos := _, after := _, guard := _ }) (v := ?_) rfl (by kernel_rfl) (by kernel_rfl) (by kernel_rfl) (fun _ _ _ h => h) (Or.inl ⟨by rfl, ?_⟩) (by assumption) ?_
  rotate_left
  · (intro W hSw; (try dsimp only at hSw); go_simp; try (with_reducible rfl))
  try simp only [Act.put, List.setIfInBounds_toArray, List.set_cons_zero, List.set_cons_succ]
  refine wpAnyH_take (i := 17) (oi := { dst := some 21, op := _, type := _, pos := _, after := _, guard := _ }) (v := ?_) rfl (by kernel_rfl) (by kernel_rfl) (by kernel_rfl) (fun _ _ _ h => h) (Or.inl ⟨by rfl, ?_⟩) (by assumption) ?_
  rotate_left
  · (intro W hSw; (try dsimp only at hSw); go_simp; try (with_reducible rfl))
  try simp only [Act.put, List.setIfInBounds_toArray, List.set_cons_zero, List.set_cons_succ]
  refine wpAnyH_take (i := 18) (oi := { dst := some 22, op := _, type := _, pos := _, after := _, guard := _ }) (v := ?_) rfl (by kernel_rfl) (by kernel_rfl) (by kernel_rfl) (fun _ _ _ h => h) (Or.inl ⟨by rfl, ?_⟩) (by assumption) ?_
  rotate_left
  · (intro W hSw; (try dsimp only at hSw); go_simp; try (with_reducible rfl))
  try simp only [Act.put, List.setIfInBounds_toArray, List.set_cons_zero, List.set_cons_succ]
  refine wpAnyH_take (i := 19) (oi := { dst := some 23, op := _, type := _, pos := _, after := _, guard := _ }) (v := .int .i64 s.secs) rfl (by kernel_rfl) (by kernel_rfl) (by kernel_rfl) (fun _ _ _ h => h) (Or.inl ⟨by rfl, ?_⟩) (by assumption) ?_
  · (intro W hSw; (try dsimp only at hSw); (have c30 : W.cell? ⟨B, 30, none⟩ = some (.int .i64 s.secs) := hSw.1.cell 30 _ rfl; go_simp))
  try simp only [Act.put, List.setIfInBounds_toArray, List.set_cons_zero, List.set_cons_succ]
  refine wpAnyH_take (i := 20) (oi := { dst := some 24, op := _, type := _, pos := _, after := _, guard := _ }) (v := ?_) rfl (by kernel_rfl) (by kernel_rfl) (by kernel_rfl) (fun _ _ _ h => h) (Or.inl ⟨by rfl, ?_⟩) (by assumption) ?_
  rotate_left
  · (intro W hSw; (try dsimp only at hSw); go_simp; try (with_reducible rfl))
  try simp only [Act.put, List.setIfInBounds_toArray, List.set_cons_zero, List.set_cons_succ]
  refine wpAnyH_take (i := 21) (oi := { dst := some 25, op := _, type := _, pos := _, after := _, guard := _ }) (v := ?_) rfl (by kernel_rfl) (by kernel_rfl) (by kernel_rfl) (fun _ _ _ h => h) (Or.inl ⟨by rfl, ?_⟩) (by assumption) ?_
  rotate_left
  · (intro W hSw; (try dsimp only at hSw); go_simp; try (with_reducible rfl))
  try simp only [Act.put, List.setIfInBounds_toArray, List.set_cons_zero, List.set_cons_succ]
  refine wpAnyH_take (i := 22) (oi := { dst := some 26, op := _, type := _, pos := _, after := _, guard := _ }) (v := ?_) rfl (by kernel_rfl) (by kernel_rfl) (by kernel_rfl) (fun _ _ _ h => h) (Or.inl ⟨by rfl, ?_⟩) (by assumption) ?_
  rotate_left
  · (intro W hSw; (try dsimp only at hSw); go_simp; try (with_reducible rfl))
  try simp only [Act.put, List.setIfInBounds_toArray, List.set_cons_zero, List.set_cons_succ]
  refine wpAnyH_take (i := 23) (oi := { dst := some 27, op := _, type := _, pos := _, after := _, guard := _ }) (v := ?_) rfl (by kernel_rfl) (by kernel_rfl) (by kernel_rfl) (fun _ _ _ h => h) (Or.inl ⟨by rfl, ?_⟩) (by assumption) ?_
  rotate_left
  · (intro W hSw; (try dsimp only at hSw); go_simp; try (with_reducible rfl))
  try simp only [Act.put, List.setIfInBounds_toArray, List.set_cons_zero, List.set_cons_succ]
  refine wpAnyH_take (i := 24) (oi := { dst := some 28, op := _, type := _, pos := _, after := _, guard := _ }) (v := .string s.att) rfl (by kernel_rfl) (by kernel_rfl) (by kernel_rfl) (fun _ _ _ h => h) (Or.inl ⟨by rfl, ?_⟩) (by assumption) ?_
  · (intro W hSw; (try dsimp only at hSw); (have c31 : W.cell? ⟨B, 31, none⟩ = some (.string s.att) := hSw.1.cell 31 _ rfl; go_simp))
  try simp only [Act.put, List.setIfInBounds_toArray, List.set_cons_zero, List.set_cons_succ]
  refine wpAnyH_take (i := 25) (oi := { dst := some 29, op := _, type := _, pos := _, after := _, guard := _ }) (v := .agg #[.int .i64 s.kind, .int .i64 0, .int .i64 0, .int .i64 0, .int .i64 s.queue, .string .empty, .string .empty, .string .empty, .string s.att, .int .i64 s.mx, .int .i64 s.secs, .int .i64 0, .string .empty, .int .i64 0, .int .i64 0, .int .i64 0, .int .i64 0, .int .i64 0, .slice none 0 0]) rfl (by kernel_rfl) (by kernel_rfl) (by kernel_rfl) (fun _ _ _ h => h) (Or.inl ⟨by rfl, ?_⟩) (by assumption) ?_
  · (intro W hSw; (try dsimp only at hSw); kernel_rfl)
  try simp only [Act.put, List.setIfInBounds_toArray, List.set_cons_zero, List.set_cons_succ]
  refine wpAnyH_ready (rs := [26]) (by kernel_rfl) (by simp) ?_
  refine (AllReadyH.cons (o := { dst := some 2, op := _, type := _, pos := _, after := _, guard := _ }) rfl (fun K hK => ?_) AllReadyH.nil)
  go_simp
  refine hK.out _ _ ?_ (fun hHeld => ?_)
  · exact ⟨HH.out.1.alloc _, HH.out.2.alloc HH.out.2.size _⟩
  clear hK K
  try simp only [Act.put, List.setIfInBounds_toArray, List.set_cons_zero, List.set_cons_succ]
  have HY0 : Hid (Bx (V0.alloc (.cells #[.int .i64 0, .int .i64 0, .int .i64 0, .int .i64 0, .int .i64 0, .string { data := #[] }, .string { data := #[] }, .string { data := #[] }, .string { data := #[] }, .int .i64 0, .int .i64 0, .int .i64 0, .string { data := #[] }, .int .i64 0, .int .i64 0, .int .i64 0, .int .i64 0, .int .i64 0, .slice none 0 0] 32)) V0.heap.size (cV Cm.none) 32) := mkH (Bx.new V0 _ _)
  have HH1 := mkH hHeld
  clear hHeld
  refine wpAnyH_ready (rs := [27]) (by kernel_rfl) (by simp) ?_
  refine (AllReadyH.cons (o := { dst := none, op := _, type := _, pos := _, after := _, guard := _ }) rfl (fun K hK => ?_) AllReadyH.nil)
  refine Gk.step_st (K := fun a w => K a w) rfl 32 (.tmp 2) (.tmp 29) rfl V0.heap.size (cV (cm0 s)) (cV Cm.none) 32 rfl rfl HY0.out infoC rfl (cV_one _) ?_
  refine hK.out _ _ ?_ (fun hHeld => ?_)
  · exact ⟨HH1.out.1.rowOther (by have := HH.out.1.lt; omega) _, below_setRow HH1.out.2 HH.out.2.size _⟩
  clear hK K
  try simp only [Act.put, List.setIfInBounds_toArray, List.set_cons_zero, List.set_cons_succ]
  refine wpAnyH_done (by kernel_rfl) ?_ _
  all_goals
    have HC1 := mkH (HY0.out.row (cs := cV (cm0 s)))
    have HH2 := mkH hHeld
    have HNC : Hid (w.heap.size ≤ V0.heap.size) := mkH HH.out.2.size
    have HNB : Hid (V0.heap.size ≠ B) := mkH (Nat.ne_of_gt HH.out.1.lt)
    clear hHeld HH HH1 HY0
    generalize (V0.alloc (.cells #[.int .i64 0, .int .i64 0, .int .i64 0, .int .i64 0, .int .i64 0, .string { data := #[] }, .string { data := #[] }, .string { data := #[] }, .string { data := #[] }, .int .i64 0, .int .i64 0, .int .i64 0, .string { data := #[] }, .int .i64 0, .int .i64 0, .int .i64 0, .int .i64 0, .int .i64 0, .slice none 0 0] 32)).setRow V0.heap.size (cV (cm0 s)) = V1 at *
    generalize V0.heap.size = nc at *
    have c27 : V1.cell? ⟨B, 27, none⟩ = some (.int .i64 s.kind) := HH2.out.1.cell 27 _ rfl
    have HIS := mkH (isOfShards_any V1 s.kind)
    rw [HSK.out] at HIS
    go_wp2_with (first
      | (refine HIS.out.mono ?_; rintro e1 w2 ⟨rfl, rfl⟩)
      | (refine (HEN.out w2 HH2.out.2 HH2.out.1).mono ?_; rintro e1 w3 ⟨rfl, hb3⟩; have HC3 := mkH (HC1.out.bel hb3); have HX3 := mkH (HH2.out.1.bel hb3); have HB3 := mkH (HH2.out.2.trans (hb3.mono HH2.out.2.size)); clear hb3)
      | (refine Gk.wpList_st rfl (ty := 92) (x := .tmp 3) (y := .tmp 67) (cs := (cE x).toArray) (old := (cE En.none).toArray) rfl rfl rfl (Bx.new _ _ _) infoEn rfl (cE_all x) ?_))
    have HE4 : Hid (Bx ((w3.alloc (.cells #[.string { data := #[] }, .string { data := #[] }, .string { data := #[] }, .int .i64 0, .string { data := #[] }, .int .i64 0, .int .i64 0] 92)).setRow w3.heap.size (cE x).toArray) w3.heap.size (cE x).toArray 92) := mkH ((Bx.new w3 _ _).row)
    have HC4 : Hid (Bx ((w3.alloc (.cells #[.string { data := #[] }, .string { data := #[] }, .string { data := #[] }, .int .i64 0, .string { data := #[] }, .int .i64 0, .int .i64 0] 92)).setRow w3.heap.size (cE x).toArray) nc (cV (cm0 s)) 32) := mkH ((HC3.out.alloc _).rowOther (Nat.ne_of_gt HC3.out.lt) _)
    have HX4 : Hid (Bx ((w3.alloc (.cells #[.string { data := #[] }, .string { data := #[] }, .string { data := #[] }, .int .i64 0, .string { data := #[] }, .int .i64 0, .int .i64 0] 92)).setRow w3.heap.size (cE x).toArray) B (Xc (kl s) a (.map (some m))) 57) := mkH ((HX3.out.alloc _).rowOther (Nat.ne_of_gt HX3.out.lt) _)
    have HB4 : Hid (Below w.heap.size w ((w3.alloc (.cells #[.string { data := #[] }, .string { data := #[] }, .string { data := #[] }, .int .i64 0, .string { data := #[] }, .int .i64 0, .int .i64 0] 92)).setRow w3.heap.size (cE x).toArray)) := mkH (below_setRow (HB3.out.alloc HB3.out.size _) HB3.out.size _)
    have HNE : Hid (nc ≠ w3.heap.size) := mkH (Nat.ne_of_lt HC3.out.lt)
    clear HC3 HX3 HB3 HC1 HH2 HIS c27
    generalize (w3.alloc (.cells #[.string { data := #[] }, .string { data := #[] }, .string { data := #[] }, .int .i64 0, .string { data := #[] }, .int .i64 0, .int .i64 0] 92)).setRow w3.heap.size (cE x).toArray = V4 at *
    generalize w3.heap.size = ne at *
    go_wp2_with fail
    refine wp_region_held_drew (S := fun W => Bx W ne (cE x).toArray 92 ∧ Bx W B (Xc (kl s) a (.map (some m))) 57 ∧ Below w.heap.size w W) hmx ⟨HE4.out, HX4.out, HB4.out.drew⟩ (fun hHeld => ?_)
    have HC5 := mkH (show Bx V4.drew nc (cV (cm0 s)) 32 from HC4.out)
    have HH5 := mkH hHeld
    clear hHeld
    generalize V4.drew = V5 at *
    refine wpAnyH_take (i := 0) (oi := { dst := some 68, op := _, type := _, pos := _, after := _, guard := _ }) (v := ?_) rfl (by kernel_rfl) (by kernel_rfl) (by kernel_rfl) (fun _ _ _ h => h) (Or.inl ⟨by rfl, ?_⟩) (by assumption) ?_
    rotate_left
    · (intro W hSw; (try dsimp only at hSw); go_simp; try (with_reducible rfl))
    try simp only [Act.put, List.setIfInBounds_toArray, List.set_cons_zero, List.set_cons_succ]
    refine wpAnyH_take (i := 1) (oi := { dst := some 69, op := _, type := _, pos := _, after := _, guard := _ }) (v := .string x.g) rfl (by kernel_rfl) (by kernel_rfl) (by kernel_rfl) (fun _ _ _ h => h) (Or.inl ⟨by rfl, ?_⟩) (by assumption) ?_
    · (intro W hSw; (try dsimp only at hSw); (have c0 : W.cell? ⟨ne, 0, none⟩ = some (.string x.g) := hSw.1.cell 0 _ rfl; go_simp))
    try simp only [Act.put, List.setIfInBounds_toArray, List.set_cons_zero, List.set_cons_succ]
    refine wpAnyH_take (i := 2) (oi := { dst := some 70, op := _, type := _, pos := _, after := _, guard := _ }) (v := ?_) rfl (by kernel_rfl) (by kernel_rfl) (by kernel_rfl) (fun _ _ _ h => h) (Or.inl ⟨by rfl, ?_⟩) (by assumption) ?_
    rotate_left
    · (intro W hSw; (try dsimp only at hSw); go_simp; try (with_reducible rfl))
    try simp only [Act.put, List.setIfInBounds_toArray, List.set_cons_zero, List.set_cons_succ]
    refine wpAnyH_take (i := 3) (oi := { dst := some 71, op := _, type := _, pos := _, after := _, guard := _ }) (v := .string x.b) rfl (by kernel_rfl) (by kernel_rfl) (by kernel_rfl) (fun _ _ _ h => h) (Or.inl ⟨by rfl, ?_⟩) (by assumption) ?_
    · (intro W hSw; (try dsimp only at hSw); (have c1 : W.cell? ⟨ne, 1, none⟩ = some (.string x.b) := hSw.1.cell 1 _ rfl; go_simp))
    try simp only [Act.put, List.setIfInBounds_toArray, List.set_cons_zero, List.set_cons_succ]
    refine wpAnyH_take (i := 4) (oi := { dst := some 72, op := _, type := _, pos := _, after := _, guard := _ }) (v := ?_) rfl (by kernel_rfl) (by kernel_rfl) (by kernel_rfl) (fun _ _ _ h => h) (Or.inl ⟨by rfl, ?_⟩) (by assumption) ?_
    rotate_left
    · (intro W hSw; (try dsimp only at hSw); go_simp; try (with_reducible rfl))
    try simp only [Act.put, List.setIfInBounds_toArray, List.set_cons_zero, List.set_cons_succ]
    refine wpAnyH_take (i := 5) (oi := { dst := some 73, op := _, type := _, pos := _, after := _, guard := _ }) (v := .string x.t) rfl (by kernel_rfl) (by kernel_rfl) (by kernel_rfl) (fun _ _ _ h => h) (Or.inl ⟨by rfl, ?_⟩) (by assumption) ?_
    · (intro W hSw; (try dsimp only at hSw); (have c2 : W.cell? ⟨ne, 2, none⟩ = some (.string x.t) := hSw.1.cell 2 _ rfl; go_simp))
    try simp only [Act.put, List.setIfInBounds_toArray, List.set_cons_zero, List.set_cons_succ]
    refine wpAnyH_take (i := 6) (oi := { dst := some 74, op := _, type := _, pos := _, after := _, guard := _ }) (v := ?_) rfl (by kernel_rfl) (by kernel_rfl) (by kernel_rfl) (fun _ _ _ h => h) (Or.inl ⟨by rfl, ?_⟩) (by assumption) ?_
    rotate_left
    · (intro W hSw; (try dsimp only at hSw); go_simp; try (with_reducible rfl))
    try simp only [Act.put, List.setIfInBounds_toArray, List.set_cons_zero, List.set_cons_succ]
    refine wpAnyH_take (i := 7) (oi := { dst := some 75, op := _, type := _, pos := _, after := _, guard := _ }) (v := .agg #[.int .i64 x.rq, .string x.rg, .int .i64 x.rs, .int .i64 x.rc]) rfl (by kernel_rfl) (by kernel_rfl) (by kernel_rfl) (fun _ _ _ h => h) (Or.inl ⟨by rfl, ?_⟩) (by assumption) ?_
    · (intro W hSw; (try dsimp only at hSw); exact Gk.run_ld rfl rfl (load_part (P := Try.prog) hSw.1 Try.underlying27 rfl 3 #[.int .i64 x.rq, .string x.rg, .int .i64 x.rs, .int .i64 x.rc] infoRc (by intro j v hv; rcases j with _ | _ | _ | _ | j <;> first | exact hv | simp at hv)))
    try simp only [Act.put, List.setIfInBounds_toArray, List.set_cons_zero, List.set_cons_succ]
    refine wpAnyH_take (i := 8) (oi := { dst := some 76, op := _, type := _, pos := _, after := _, guard := _ }) (v := ?_) rfl (by kernel_rfl) (by kernel_rfl) (by kernel_rfl) (fun _ _ _ h => h) (Or.inl ⟨by rfl, ?_⟩) (by assumption) ?_
    rotate_left
    · (intro W hSw; (try dsimp only at hSw); go_simp; try (with_reducible rfl))
    try simp only [Act.put, List.setIfInBounds_toArray, List.set_cons_zero, List.set_cons_succ]
    refine wpAnyH_ready (rs := [9]) (by kernel_rfl) (by simp) ?_
    refine (AllReadyH.cons (o := { dst := none, op := _, type := _, pos := _, after := _, guard := _ }) rfl (fun K hK => ?_) AllReadyH.nil)
    have d5 := HC5.out.cell 5 _ rfl
    have g5 := HC5.out.frozen 5
    go_simp
    refine hK.out _ _ ?_ (fun hHeld => ?_)
    · exact ⟨HH5.out.1.other (p := ⟨nc, 5, none⟩) HNE.out _, HH5.out.2.1.other (p := ⟨nc, 5, none⟩) HNB.out _, HH5.out.2.2.setCell HNC.out _⟩
    clear hK K
    try simp only [Act.put, List.setIfInBounds_toArray, List.set_cons_zero, List.set_cons_succ]
    have HC6 := mkH (Bx.setTo HC5.out (cs' := cV { cm0 s with group := x.g }) 5 (.string x.g) rfl)
    have HH6 := mkH hHeld
    clear hHeld d5 g5
    generalize V5.setCell ⟨nc, 5, none⟩ (.string x.g) = V6 at *
    refine wpAnyH_take (i := 10) (oi := { dst := some 77, op := _, type := _, pos := _, after := _, guard := _ }) (v := ?_) rfl (by kernel_rfl) (by kernel_rfl) (by kernel_rfl) (fun _ _ _ h => h) (Or.inl ⟨by rfl, ?_⟩) (by assumption) ?_
    rotate_left
    · (intro W hSw; (try dsimp only at hSw); go_simp; try (with_reducible rfl))
    try simp only [Act.put, List.setIfInBounds_toArray, List.set_cons_zero, List.set_cons_succ]
    refine wpAnyH_ready (rs := [11]) (by kernel_rfl) (by simp) ?_
    refine (AllReadyH.cons (o := { dst := none, op := _, type := _, pos := _, after := _, guard := _ }) rfl (fun K hK => ?_) AllReadyH.nil)
    have d6 := HC6.out.cell 6 _ rfl
    have g6 := HC6.out.frozen 6
    go_simp
    refine hK.out _ _ ?_ (fun hHeld => ?_)
    · exact ⟨HH6.out.1.other (p := ⟨nc, 6, none⟩) HNE.out _, HH6.out.2.1.other (p := ⟨nc, 6, none⟩) HNB.out _, HH6.out.2.2.setCell HNC.out _⟩
    clear hK K
    try simp only [Act.put, List.setIfInBounds_toArray, List.set_cons_zero, List.set_cons_succ]
    have HC7 := mkH (Bx.setTo HC6.out (cs' := cV { cm0 s with group := x.g, body := x.b }) 6 (.string x.b) rfl)
    have HH7 := mkH hHeld
    clear hHeld d6 g6
    generalize V6.setCell ⟨nc, 6, none⟩ (.string x.b) = V7 at *
    refine wpAnyH_take (i := 12) (oi := { dst := some 78, op := _, type := _, pos := _, after := _, guard := _ }) (v := ?_) rfl (by kernel_rfl) (by kernel_rfl) (by kernel_rfl) (fun _ _ _ h => h) (Or.inl ⟨by rfl, ?_⟩) (by assumption) ?_
    rotate_left
    · (intro W hSw; (try dsimp only at hSw); go_simp; try (with_reducible rfl))
    try simp only [Act.put, List.setIfInBounds_toArray, List.set_cons_zero, List.set_cons_succ]
    refine wpAnyH_ready (rs := [13]) (by kernel_rfl) (by simp) ?_
    refine (AllReadyH.cons (o := { dst := none, op := _, type := _, pos := _, after := _, guard := _ }) rfl (fun K hK => ?_) AllReadyH.nil)
    have d7 := HC7.out.cell 7 _ rfl
    have g7 := HC7.out.frozen 7
    go_simp
    refine hK.out _ _ ?_ (fun hHeld => ?_)
    · exact ⟨HH7.out.1.other (p := ⟨nc, 7, none⟩) HNE.out _, HH7.out.2.1.other (p := ⟨nc, 7, none⟩) HNB.out _, HH7.out.2.2.setCell HNC.out _⟩
    clear hK K
    try simp only [Act.put, List.setIfInBounds_toArray, List.set_cons_zero, List.set_cons_succ]
    have HC8 := mkH (Bx.setTo HC7.out (cs' := cV { cm0 s with group := x.g, body := x.b, token := x.t }) 7 (.string x.t) rfl)
    have HH8 := mkH hHeld
    clear hHeld d7 g7
    generalize V7.setCell ⟨nc, 7, none⟩ (.string x.t) = V8 at *
    refine wpAnyH_take (i := 14) (oi := { dst := some 79, op := _, type := _, pos := _, after := _, guard := _ }) (v := ?_) rfl (by kernel_rfl) (by kernel_rfl) (by kernel_rfl) (fun _ _ _ h => h) (Or.inl ⟨by rfl, ?_⟩) (by assumption) ?_
    rotate_left
    · (intro W hSw; (try dsimp only at hSw); go_simp; try (with_reducible rfl))
    try simp only [Act.put, List.setIfInBounds_toArray, List.set_cons_zero, List.set_cons_succ]
    refine wpAnyH_ready (rs := [15]) (by kernel_rfl) (by simp) ?_
    refine (AllReadyH.cons (o := { dst := none, op := _, type := _, pos := _, after := _, guard := _ }) rfl (fun K hK => ?_) AllReadyH.nil)
    refine step_stp (K := fun a w => K a w) rfl 27 (.tmp 79) (.tmp 75) rfl nc 11 (cV { cm0 s with group := x.g, body := x.b, token := x.t }) (cV (cmE s x)) #[.int .i64 x.rq, .string x.rg, .int .i64 x.rs, .int .i64 x.rc] 32 rfl rfl HC8.out infoRc (by simp [cV]) (by rw [List.all_toArray]; rfl) rfl ?_
    refine hK.out _ _ ?_ (fun hHeld => ?_)
    · exact ⟨HH8.out.1.rowOther HNE.out _, HH8.out.2.1.rowOther HNB.out _, below_setRow HH8.out.2.2 HNC.out _⟩
    clear hK K
    try simp only [Act.put, List.setIfInBounds_toArray, List.set_cons_zero, List.set_cons_succ]
    refine wpAnyH_done (by kernel_rfl) ?_ _
    have HC9 := mkH (HC8.out.row (cs := cV (cmE s x)))
    have HX9 := mkH hHeld.2.1
    have HB9 := mkH hHeld.2.2
    clear hHeld HH8 HC8 HE4 HC4 HX4 HB4
    generalize V8.setRow nc (cV (cmE s x)) = V9 at *
    go_wp2_with fail
    refine Rg.region_G hmx 6 (fun W => Bx W nc (cV (cmE s x)) 32 ∧ Bx W B (Xc (kl s) a (.map (some m))) 57 ∧ Below w.heap.size w W) ⟨HC9.out, HX9.out, HB9.out.drew⟩ (fun hHeld => ?_)
    have HH10 := mkH hHeld
    clear hHeld
    generalize V9.drew = V10 at *
    refine Rg.anyG_pure (i := 0) (oi := { dst := some 80, op := _, type := _, pos := _, after := _, guard := _ }) (v := ?_) rfl (by kernel_rfl) (by kernel_rfl) (by kernel_rfl) (by rfl) (fun _ _ _ h => h) (Or.inl ⟨by rfl, ?_⟩) (fun _ => by assumption) ?_
    rotate_left
    · (intro W hSw; (try dsimp only at hSw); go_simp; try (with_reducible rfl))
    try simp only [Act.put, List.setIfInBounds_toArray, List.set_cons_zero, List.set_cons_succ]
    refine Rg.anyG_pure (i := 1) (oi := { dst := some 81, op := _, type := _, pos := _, after := _, guard := _ }) (v := ?_) rfl (by kernel_rfl) (by kernel_rfl) (by kernel_rfl) (by rfl) (fun _ _ _ h => h) (Or.inl ⟨by rfl, ?_⟩) (fun _ => by assumption) ?_
    rotate_left
    · (intro W hSw; (try dsimp only at hSw); go_simp; try (with_reducible rfl))
    try simp only [Act.put, List.setIfInBounds_toArray, List.set_cons_zero, List.set_cons_succ]
    refine Rg.anyG_pure (i := 2) (oi := { dst := some 82, op := _, type := _, pos := _, after := _, guard := _ }) (v := ?_) rfl (by kernel_rfl) (by kernel_rfl) (by kernel_rfl) (by rfl) (fun _ _ _ h => h) (Or.inl ⟨by rfl, ?_⟩) (fun _ => by assumption) ?_
    rotate_left
    · (intro W hSw; (try dsimp only at hSw); go_simp; try (with_reducible rfl))
    try simp only [Act.put, List.setIfInBounds_toArray, List.set_cons_zero, List.set_cons_succ]
    refine Rg.anyG_pure (i := 3) (oi := { dst := some 83, op := _, type := _, pos := _, after := _, guard := _ }) (v := ?_) rfl (by kernel_rfl) (by kernel_rfl) (by kernel_rfl) (by rfl) (fun _ _ _ h => h) (Or.inl ⟨by rfl, ?_⟩) (fun _ => by assumption) ?_
    rotate_left
    · (intro W hSw; (try dsimp only at hSw); go_simp; try (with_reducible rfl))
    try simp only [Act.put, List.setIfInBounds_toArray, List.set_cons_zero, List.set_cons_succ]
    refine Rg.anyG_take (i := 5) (oi := { dst := some 85, op := _, type := _, pos := _, after := _, guard := _ }) (v := .agg (cV (cmE s x))) rfl (by kernel_rfl) (by kernel_rfl) (by kernel_rfl) [6] (by kernel_rfl) (fun _ _ _ h => h) (Or.inl ⟨by rfl, ?_⟩) (by assumption) ?_
    · (intro W hSw; (try dsimp only at hSw); exact Gk.run_ld rfl rfl (load_c hSw.1))
    try simp only [Act.put, List.setIfInBounds_toArray, List.set_cons_zero, List.set_cons_succ]
    refine Rg.anyG_ready (rs := [4]) (by kernel_rfl) (by simp) ?_
    refine (Rg.AllG.cons (o := { dst := some 84, op := _, type := _, pos := _, after := _, guard := _ }) rfl (fun K hK => ?_) Rg.AllG.nil)
    go_simp
    refine (HSV.out V10 HH10.out.2.2 HH10.out.2.1).mono ?_
    rintro e1 V11 ⟨rfl, hb11⟩
    have HH11 := mkH (And.intro (HH10.out.1.bel hb11) (And.intro (HH10.out.2.1.bel hb11) (HH10.out.2.2.trans (hb11.mono HH10.out.2.2.size))))
    clear hb11
    go_wp2_with fail
    refine hK.out _ _ ?_ (fun hHeld => ?_)
    · exact HH11.out
    clear hK K
    try simp only [Act.put, List.setIfInBounds_toArray, List.set_cons_zero, List.set_cons_succ]
    refine Rg.anyG_ready (rs := [6]) (by kernel_rfl) (by simp) ?_
    refine Rg.AllG.last (o := { dst := some 86, op := _, type := _, pos := _, after := _, guard := _ }) rfl (by kernel_rfl) (fun K hK => ?_)
    go_simp
    refine (Ask_ok HH11.out.2.1 HAS.out HNU.out _ HGR.out (cmE s x)).mono ?_
    rintro e1 V12 ⟨rfl, hT⟩
    have HT := mkH hT
    clear hT
    go_wp2_with fail
    refine hK.out _ _ ?_
    clear hK K
    try simp only [Act.put, List.setIfInBounds_toArray, List.set_cons_zero, List.set_cons_succ]
    refine Rg.anyG_done (by kernel_rfl) ?_ _
    all_goals
      go_wp2
      exact bodyPost_end (v := .tuple #[]) (results_none rfl _ _ _) rfl ⟨rfl, HT.out.1, (Fr.ofBelow (F := fun q => q = B) HH11.out.2.2).trans HT.out.2 (fun i hi => .inl hi)⟩
end Go.Proofs.Ytabckkepkennhaa.Fq
