/-
  few: the law's replies.
-/
import Derived.Test.YtenkgpfeifflnaaGreatSeB
import Derived.Test.YtenkgpfeifflnaaGreatWiFd
import Derived.Deep.CutBlock
import Derived.Deep.DeepCutAuto
namespace Go.Proofs.YtenkgpfeifflnaaGreat.Sf
open Go.RowKit Kt Pl Wi Wk Wa Sm Sa Sb
open Dk (Fr Nx)
open At (RowT)
open Wfr (RpIn)
set_option linter.unusedVariables false
set_option linter.unusedSimpArgs false
set_option maxRecDepth 20000

def fG (g : Gt) : Gt := { rc := { g.rc with g := g.rc.g.take 40 }, body := g.body.take 150, sent := g.sent }
def fR (r : Rp) : Rp := { r with got := (r.got.take 12).map fG, data := (r.data.take 5).map (fun s => s.take 100), about := r.about.take 10 }
theorem fR_cnt (r : Rp) : Cnt (fR r) := by
  refine ⟨?_, ?_, ?_⟩ <;> simp only [fR, List.length_map, List.length_take] <;> omega
theorem S_take (s : Bs) (n : Nat) : (S s).extract 0 n = S (s.take n) := by
  apply ByteArray.ext
  simp [S, ByteArray.data_extract]
theorem cutL (n : Nat) (s : Bs) : ∃ m : Nat, (if (n : Int) < ((S s).size : Int) then (n : Int) else ((S s).size : Int)) = (m : Int) ∧ (m : Int) ≤ ((S s).size : Int) ∧ (S s).extract 0 m = S (s.take n) := by
  have z : (S s).size = s.length := rfl
  by_cases h1 : n < s.length
  · exact ⟨n, by rw [if_pos (by omega)], by omega, S_take s n⟩
  · exact ⟨s.length, by rw [if_neg (by omega), z], by omega, by rw [S_take, List.take_length, List.take_of_length_le (by omega)]⟩
theorem fG_snoc {l : List Gt} {k : Nat} {x : Gt} (h : l[k]? = some x) : (l.take (k + 1)).map fG = (l.take k).map fG ++ [fG x] := by
  rw [List.take_add_one, h, List.map_append]; rfl
theorem fS_snoc {l : List Bs} {k : Nat} {x : Bs} (h : l[k]? = some x) : (l.take (k + 1)).map (fun s => s.take 100) = (l.take k).map (fun s => s.take 100) ++ [x.take 100] := by
  rw [List.take_add_one, h, List.map_append]; rfl
theorem src_new {α : Type} {n : Nat} {cs : α → List Value} (hn : ∀ x, (cs x).length = n) {P : Program} (h1 : ∀ x, ∀ u ∈ cs x, u.oneCell' = true) (hpos : 0 < n) {tx e' : TypeId} (hk : P.underlying tx = some (.slice e')) (w : World) (x : α) (t : TypeId) :
    Src P n tx (.slice (some ⟨w.heap.size, 0, none⟩) 1 1) 1 (Fl cs [x]) (w.alloc (.cells (cs x).toArray t)) := by
  have hr : RowS n cs (w.alloc (.cells (cs x).toArray t)) (some ⟨w.heap.size, 0, none⟩) [x] := by
    intro _
    refine ⟨w.heap.size, 0, rfl, fun i y hy j v hv => ?_⟩
    have hi := lt_of hy
    simp at hi
    subst hi
    simp at hy
    subst hy
    simp only [Nat.zero_mul, Nat.zero_add]
    rw [cell_new]
    simpa using hv
  exact hr.src hn h1 hpos hk 1
theorem step_append {P : Program} {ops : Array Oper} {o : Oper} {a : Act} {w : World} {K : Act → World → Prop} {Q : Exit → Act → World → Prop} {E : Prop}
    (hg : o.guard = none) (s x : Operand) (t tx : TypeId) (hop : o.op = Op.call { callee := Callee.builtin Builtin.append, args := #[s, x], argTypes := #[t, tx] })
    (base : Nat) (e : TypeId) (z : Value) (size bytes : Nat) (ht : P.underlying t = some (.slice e)) (hinfo : (P.info? e).map (fun i => (i.zero, i.size, i.bytes)) = some (some z, size, bytes))
    (hzs : z.cells.size = size) (hsz : 0 < size)
    (v : Value) (n : Nat) (xs : List Value) (hs : a.eval s = v) (hown : w.ownsRow base e size v n xs)
    (xv : Value) (m : Nat) (news : List Value) (hx : a.eval x = xv) (hsrc : Src P size tx xv m news w)
    (h63 : n + m ≤ maxLen) (hbytes : (n + m) * bytes ≤ 140737488355328) (hbase : base ≤ w.heap.size)
    (hK : ∀ v' w', w'.ownsRow base e size v' (n + m) (xs ++ news) → w.grownBy w' v.ownBlock → K (a.put o.dst v') w') :
    if Region.wanted o (yielded ops a.tmps) = true then Oper.wp P o a w K Q else E := by
  obtain ⟨i, hi, hz, hsize, hby⟩ := info_parts hinfo
  have hw : Region.wanted o (yielded ops a.tmps) = true := by simp [Region.wanted, hg]
  rw [if_pos hw]
  obtain ⟨v', w', hr, h2, h3⟩ := run_append_own_src (P := P) w base t tx o.type e i z size bytes ht hi hz hsize hby hzs hsz v n xs hown xv m news hsrc h63 hbytes hbase
  unfold Oper.wp
  simp [execOp, hop, resolve, invoke, builtin, hs, hx, hr, Result.andThen]
  exact hK v' w' h2 h3
theorem src_str (w : World) (s : ByteArray) (t : TypeId) : Src Tryz.prog 1 29 (.slice (some ⟨w.heap.size, 0, none⟩) 1 1) 1 [.string s] (w.alloc (.cells #[.string s] t)) := by
  refine Src.ofSlice _ Tryz.underlying29 _ 1 1 _ rfl (fun j u hj => ?_) (fun u hu => by simp at hu; subst hu; rfl)
  rw [Addr.add_lit, Nat.zero_add, cell_new]
  simpa using hj
theorem own_bel {wr W2 : World} {base n m : Nat} {e : TypeId} {v : Value} {xs : List Value} (h : wr.ownsRow base e n v m xs) (hb : Below wr.heap.size wr W2) : W2.ownsRow base e n v m xs := by
  refine ⟨h.1, ?_⟩
  rcases h.2 with h1 | ⟨g, c, cur, e1, h2, h3, h4⟩
  · exact .inl h1
  · exact .inr ⟨g, c, cur, e1, h2, (hb.block g (Array.getElem?_eq_some_iff.1 h3).1).trans h3, h4⟩

set_option maxHeartbeats 16000000 in
theorem few_any (w : World) (r : Rp) (ga : Option Addr) (gc : Nat) (da : Option Addr) (dc : Nat) (ra : Option Addr) (rc : Nat) (hin : RpIn w r ga gc da dc ra rc) :
    Calls Tryz.prog 7 #[.agg (Pv r ga gc da dc ra rc)] w fun e w' => RpNew w (fR r) e w' := by
  have hmx : Tryz.prog.follows .mixedOrders = true := by kernel_rfl
  obtain ⟨hm, hg1, hd1, ha1, ha2, ht⟩ := hin
  have HM := mkH hm
  clear hm ht
  go_enter Tryz.func7, Tryz.ntmps7
  go_upto_block 0 with fail
  refine start2w (cs := Pv r ga gc da dc ra rc) (zs := ZP) (fun W0 hB hZ hG hsz => ?_)
  have HB := mkH hB
  have HZ := mkH hZ
  have HG := mkH hG
  have HSZ := mkH hsz
  clear hB hZ hG hsz
  go_cut [3] (fun s3 WW => ∃ g2 gc2, s3 = .slice g2 ((r.got.take 12).map fG).length gc2 ∧ Hid (RowG WW g2 ((r.got.take 12).map fG)) ∧ Hid (∀ a, g2 = some a → w.heap.size + 2 ≤ a.block) ∧ Hid (Below (w.heap.size + 2) W0 WW))
  case first =>
    go_wp2_with fail
    go_loopw [3, 4, 5] (fun v i _ wr => ∃ k : Nat, k ≤ r.got.length ∧ k ≤ 12 ∧ i = .int .i64 k ∧ Hid (wr.ownsRow (w.heap.size + 2) 43 6 v k (Fl gC ((r.got.take k).map fG))) ∧ Hid (Below (w.heap.size + 2) W0 wr)) (fun _ i _ _ => 12 - (intOf i).toNat)
    case atStart => exact ⟨0, Nat.zero_le _, Nat.zero_le _, rfl, mkH (World.ownsRow_nil _ _ _ _), mkH (Below.refl _ _)⟩
    case round =>
      obtain ⟨k, hk, hk2, rfl, HW, HBe⟩ := hrel
      have hszr := HBe.out.size
      have c3 : wr.cell? ⟨w.heap.size, 3, none⟩ = some (.slice ga r.got.length gc) := (HB.out.below HBe.out (by have := HSZ.out; omega)).cell 3
      by_cases hlt : k < r.got.length ∧ k < 12
      · obtain ⟨hlt, hlt2⟩ := hlt
        have c2 : (k : Int) < 12 := by omega
        obtain ⟨b, off, hao, hcl⟩ := ((HM.out.below HG.out).got.below (HBe.out.mono (by have := HSZ.out; omega))) (by omega)
        obtain ⟨g, hx⟩ := some_of hlt
        have HLD := mkH (load_got (hcl k g hx))
        subst hao
        obtain ⟨m1, e1, e2, e3⟩ := cutL 150 g.body
        obtain ⟨m2, e4, e5, e6⟩ := cutL 40 g.rc.g
        have e1 : (if (150 : Int) < ((S g.body).size : Int) then (150 : Int) else ((S g.body).size : Int)) = (m1 : Int) := e1
        have e4 : (if (40 : Int) < ((S g.rc.g).size : Int) then (40 : Int) else ((S g.rc.g).size : Int)) = (m2 : Int) := e4
        have HSN := mkH (fG_snoc hx)
        have HONE := mkH (all1 _ (gC_one g))
        have HI : Hid ((Tryz.prog.info? 43).map (·.size) = some (Gv g).size) := mkH infoG
        have HS6 : Hid ((#[.int .i64 0, .string ⟨#[]⟩, .int .i64 0, .int .i64 0, .string ⟨#[]⟩, .int .i64 0] : Array Value).size = (Gv g).size) := mkH rfl
        have hszw : w.heap.size + 2 ≤ wr.heap.size := by have := HSZ.out; omega
        clear hcl hx
        go_wp2_with (first
          | (refine Wy.wpList_ld (ty := 43) (x := .tmp 22) rfl rfl rfl HLD.out ?_)
          | (refine wpList_stn (x := .tmp 5) (y := .tmp 23) rfl rfl rfl rfl HI.out HS6.out HONE.out ?_; intro W2 hB2 hG2; have HX2 := mkH hB2; have HY2 := mkH hG2.below; clear hB2 hG2))
        generalize hBq : wr.heap.size = B at *
        refine Rg.region_G hmx 17 (fun W => W.cell? ⟨B, 4, none⟩ = some (.string (S g.body)) ∧ W.cell? ⟨B, 1, none⟩ = some (.string (S g.rc.g))) ⟨HX2.out.cell 4, HX2.out.cell 1⟩ (fun hHeld => ?_)
        have HXV0 := mkH HX2.out.drew
        have HYV0 := mkH HY2.out.drew
        generalize W2.drew = V0 at *
        refine Rg.anyG_pure (i := 0) (oi := { dst := some 24, op := _, type := _, pos := _, after := _, guard := _ }) (v := ?_) rfl (by kernel_rfl) (by kernel_rfl) (by kernel_rfl) (by rfl) (fun _ _ _ h => h) (Or.inl ⟨by rfl, ?_⟩) (fun _ => by assumption) ?_
        rotate_left
        · (intro W hSw; (try dsimp only at hSw); go_simp; try (with_reducible rfl))
        try simp only [Act.put, List.setIfInBounds_toArray, List.set_cons_zero, List.set_cons_succ]
        refine Rg.anyG_take (i := 1) (oi := { dst := some 25, op := _, type := _, pos := _, after := _, guard := _ }) (v := ?_) rfl (by kernel_rfl) (by kernel_rfl) (by kernel_rfl) [17] (by kernel_rfl) (fun _ _ _ h => h) (Or.inl ⟨by rfl, ?_⟩) (by assumption) ?_
        rotate_left
        · (intro W hSw; (try dsimp only at hSw); go_simp; try (with_reducible rfl))
        try simp only [Act.put, List.setIfInBounds_toArray, List.set_cons_zero, List.set_cons_succ]
        refine Rg.anyG_pure (i := 2) (oi := { dst := some 26, op := _, type := _, pos := _, after := _, guard := _ }) (v := ?_) rfl (by kernel_rfl) (by kernel_rfl) (by kernel_rfl) (by rfl) (fun _ _ _ h => h) (Or.inl ⟨by rfl, ?_⟩) (fun _ => by assumption) ?_
        rotate_left
        · (intro W hSw; (try dsimp only at hSw); go_simp; try (with_reducible rfl))
        try simp only [Act.put, List.setIfInBounds_toArray, List.set_cons_zero, List.set_cons_succ]
        refine Rg.anyG_take (i := 3) (oi := { dst := some 27, op := _, type := _, pos := _, after := _, guard := _ }) (v := ?_) rfl (by kernel_rfl) (by kernel_rfl) (by kernel_rfl) [17] (by kernel_rfl) (fun _ _ _ h => h) (Or.inl ⟨by rfl, ?_⟩) (by assumption) ?_
        rotate_left
        · (intro W hSw; (try dsimp only at hSw); go_simp; try (with_reducible rfl))
        try simp only [Act.put, List.setIfInBounds_toArray, List.set_cons_zero, List.set_cons_succ]
        refine Rg.anyG_pure (i := 4) (oi := { dst := some 28, op := _, type := _, pos := _, after := _, guard := _ }) (v := ?_) rfl (by kernel_rfl) (by kernel_rfl) (by kernel_rfl) (by rfl) (fun _ _ _ h => h) (Or.inl ⟨by rfl, ?_⟩) (fun _ => by assumption) ?_
        rotate_left
        · (intro W hSw; (try dsimp only at hSw); go_simp; try (with_reducible rfl))
        try simp only [Act.put, List.setIfInBounds_toArray, List.set_cons_zero, List.set_cons_succ]
        refine Rg.anyG_pure (i := 5) (oi := { dst := some 29, op := _, type := _, pos := _, after := _, guard := _ }) (v := .int .i64 (m1 : Int)) rfl (by kernel_rfl) (by kernel_rfl) (by kernel_rfl) (by rfl) (fun _ _ _ h => h) (Or.inl ⟨by rfl, ?_⟩) (fun _ => by assumption) ?_
        · (intro W hSw; (try dsimp only at hSw); go_simp; try (with_reducible rfl))
        try simp only [Act.put, List.setIfInBounds_toArray, List.set_cons_zero, List.set_cons_succ]
        refine Rg.anyG_pure (i := 6) (oi := { dst := some 30, op := _, type := _, pos := _, after := _, guard := _ }) (v := .string (S (g.body.take 150))) rfl (by kernel_rfl) (by kernel_rfl) (by kernel_rfl) (by rfl) (fun _ _ _ h => h) (Or.inl ⟨by rfl, ?_⟩) (fun _ => by assumption) ?_
        · (intro W hSw; (try dsimp only at hSw); go_simp; try (with_reducible rfl))
        try simp only [Act.put, List.setIfInBounds_toArray, List.set_cons_zero, List.set_cons_succ]
        refine Rg.anyG_pure (i := 7) (oi := { dst := some 31, op := _, type := _, pos := _, after := _, guard := _ }) (v := ?_) rfl (by kernel_rfl) (by kernel_rfl) (by kernel_rfl) (by rfl) (fun _ _ _ h => h) (Or.inl ⟨by rfl, ?_⟩) (fun _ => by assumption) ?_
        rotate_left
        · (intro W hSw; (try dsimp only at hSw); go_simp; try (with_reducible rfl))
        try simp only [Act.put, List.setIfInBounds_toArray, List.set_cons_zero, List.set_cons_succ]
        refine Rg.anyG_pure (i := 8) (oi := { dst := some 32, op := _, type := _, pos := _, after := _, guard := _ }) (v := ?_) rfl (by kernel_rfl) (by kernel_rfl) (by kernel_rfl) (by rfl) (fun _ _ _ h => h) (Or.inl ⟨by rfl, ?_⟩) (fun _ => by assumption) ?_
        rotate_left
        · (intro W hSw; (try dsimp only at hSw); go_simp; try (with_reducible rfl))
        try simp only [Act.put, List.setIfInBounds_toArray, List.set_cons_zero, List.set_cons_succ]
        refine Rg.anyG_take (i := 9) (oi := { dst := some 33, op := _, type := _, pos := _, after := _, guard := _ }) (v := ?_) rfl (by kernel_rfl) (by kernel_rfl) (by kernel_rfl) [17] (by kernel_rfl) (fun _ _ _ h => h) (Or.inl ⟨by rfl, ?_⟩) (by assumption) ?_
        rotate_left
        · (intro W hSw; (try dsimp only at hSw); go_simp; try (with_reducible rfl))
        try simp only [Act.put, List.setIfInBounds_toArray, List.set_cons_zero, List.set_cons_succ]
        refine Rg.anyG_pure (i := 10) (oi := { dst := some 34, op := _, type := _, pos := _, after := _, guard := _ }) (v := ?_) rfl (by kernel_rfl) (by kernel_rfl) (by kernel_rfl) (by rfl) (fun _ _ _ h => h) (Or.inl ⟨by rfl, ?_⟩) (fun _ => by assumption) ?_
        rotate_left
        · (intro W hSw; (try dsimp only at hSw); go_simp; try (with_reducible rfl))
        try simp only [Act.put, List.setIfInBounds_toArray, List.set_cons_zero, List.set_cons_succ]
        refine Rg.anyG_pure (i := 11) (oi := { dst := some 35, op := _, type := _, pos := _, after := _, guard := _ }) (v := ?_) rfl (by kernel_rfl) (by kernel_rfl) (by kernel_rfl) (by rfl) (fun _ _ _ h => h) (Or.inl ⟨by rfl, ?_⟩) (fun _ => by assumption) ?_
        rotate_left
        · (intro W hSw; (try dsimp only at hSw); go_simp; try (with_reducible rfl))
        try simp only [Act.put, List.setIfInBounds_toArray, List.set_cons_zero, List.set_cons_succ]
        refine Rg.anyG_take (i := 12) (oi := { dst := some 36, op := _, type := _, pos := _, after := _, guard := _ }) (v := ?_) rfl (by kernel_rfl) (by kernel_rfl) (by kernel_rfl) [17] (by kernel_rfl) (fun _ _ _ h => h) (Or.inl ⟨by rfl, ?_⟩) (by assumption) ?_
        rotate_left
        · (intro W hSw; (try dsimp only at hSw); go_simp; try (with_reducible rfl))
        try simp only [Act.put, List.setIfInBounds_toArray, List.set_cons_zero, List.set_cons_succ]
        refine Rg.anyG_pure (i := 13) (oi := { dst := some 37, op := _, type := _, pos := _, after := _, guard := _ }) (v := ?_) rfl (by kernel_rfl) (by kernel_rfl) (by kernel_rfl) (by rfl) (fun _ _ _ h => h) (Or.inl ⟨by rfl, ?_⟩) (fun _ => by assumption) ?_
        rotate_left
        · (intro W hSw; (try dsimp only at hSw); go_simp; try (with_reducible rfl))
        try simp only [Act.put, List.setIfInBounds_toArray, List.set_cons_zero, List.set_cons_succ]
        refine Rg.anyG_pure (i := 14) (oi := { dst := some 38, op := _, type := _, pos := _, after := _, guard := _ }) (v := .int .i64 (m2 : Int)) rfl (by kernel_rfl) (by kernel_rfl) (by kernel_rfl) (by rfl) (fun _ _ _ h => h) (Or.inl ⟨by rfl, ?_⟩) (fun _ => by assumption) ?_
        · (intro W hSw; (try dsimp only at hSw); go_simp; try (with_reducible rfl))
        try simp only [Act.put, List.setIfInBounds_toArray, List.set_cons_zero, List.set_cons_succ]
        refine Rg.anyG_pure (i := 15) (oi := { dst := some 39, op := _, type := _, pos := _, after := _, guard := _ }) (v := .string (S (g.rc.g.take 40))) rfl (by kernel_rfl) (by kernel_rfl) (by kernel_rfl) (by rfl) (fun _ _ _ h => h) (Or.inl ⟨by rfl, ?_⟩) (fun _ => by assumption) ?_
        · (intro W hSw; (try dsimp only at hSw); go_simp; try (with_reducible rfl))
        try simp only [Act.put, List.setIfInBounds_toArray, List.set_cons_zero, List.set_cons_succ]
        refine Rg.anyG_pure (i := 16) (oi := { dst := some 40, op := _, type := _, pos := _, after := _, guard := _ }) (v := ?_) rfl (by kernel_rfl) (by kernel_rfl) (by kernel_rfl) (by rfl) (fun _ _ _ h => h) (Or.inl ⟨by rfl, ?_⟩) (fun _ => by assumption) ?_
        rotate_left
        · (intro W hSw; (try dsimp only at hSw); go_simp; try (with_reducible rfl))
        try simp only [Act.put, List.setIfInBounds_toArray, List.set_cons_zero, List.set_cons_succ]
        refine Rg.anyG_ready (rs := [17]) (by kernel_rfl) (by simp) ?_
        refine Rg.AllG.last (o := { dst := none, op := _, type := _, pos := _, after := _, guard := _ }) rfl (by kernel_rfl) (fun K hK => ?_)
        have cz : V0.cell? ⟨B, 4, none⟩ = some (.string (S g.body)) := HXV0.out.cell 4
        have fz := HXV0.out.frozen 4
        have hbz : Below B wr (V0.setCell ⟨B, 4, none⟩ (.string (S (g.body.take 150)))) := HYV0.out.setCell (Nat.le_refl _) _
        have hbx : Bx (V0.setCell ⟨B, 4, none⟩ (.string (S (g.body.take 150)))) B (Gv { g with body := g.body.take 150 }) 43 := HXV0.out.set 4 _
        obtain ⟨V1, hV1⟩ : ∃ W, V0.setCell ⟨B, 4, none⟩ (.string (S (g.body.take 150))) = W := ⟨_, rfl⟩
        rw [hV1] at hbz hbx
        have HYV1 := mkH hbz
        have HXV1 := mkH hbx
        have hHV1 := mkH hV1
        clear hbz hbx hV1
        go_simp
        rw [hHV1.out]
        clear cz fz
        refine hK.out _ _ ?_
        clear hK K
        try simp only [Act.put, List.setIfInBounds_toArray, List.set_cons_zero, List.set_cons_succ]
        refine Rg.anyG_pure (i := 18) (oi := { dst := some 41, op := _, type := _, pos := _, after := _, guard := _ }) (v := ?_) rfl (by kernel_rfl) (by kernel_rfl) (by kernel_rfl) (by rfl) (fun _ _ _ h => h) (Or.inl ⟨by rfl, ?_⟩) (fun h => absurd (h.symm.trans (show _ = true by kernel_rfl)) Bool.false_ne_true) ?_
        rotate_left
        · (intro W hSw; (try dsimp only at hSw); go_simp; try (with_reducible rfl))
        try simp only [Act.put, List.setIfInBounds_toArray, List.set_cons_zero, List.set_cons_succ]
        refine Rg.anyG_pure (i := 19) (oi := { dst := some 42, op := _, type := _, pos := _, after := _, guard := _ }) (v := ?_) rfl (by kernel_rfl) (by kernel_rfl) (by kernel_rfl) (by rfl) (fun _ _ _ h => h) (Or.inl ⟨by rfl, ?_⟩) (fun h => absurd (h.symm.trans (show _ = true by kernel_rfl)) Bool.false_ne_true) ?_
        rotate_left
        · (intro W hSw; (try dsimp only at hSw); go_simp; try (with_reducible rfl))
        try simp only [Act.put, List.setIfInBounds_toArray, List.set_cons_zero, List.set_cons_succ]
        refine Rg.anyG_ready (rs := [20]) (by kernel_rfl) (by simp) ?_
        refine Rg.AllG.behind (o := { dst := none, op := _, type := _, pos := _, after := _, guard := _ }) rfl (by kernel_rfl) (fun K hK => ?_) Rg.AllG.nil
        have cz : V1.cell? ⟨B, 1, none⟩ = some (.string (S g.rc.g)) := HXV1.out.cell 1
        have fz := HXV1.out.frozen 1
        have hbz : Below B wr (V1.setCell ⟨B, 1, none⟩ (.string (S (g.rc.g.take 40)))) := HYV1.out.setCell (Nat.le_refl _) _
        have hbx : Bx (V1.setCell ⟨B, 1, none⟩ (.string (S (g.rc.g.take 40)))) B (Gv (fG g)) 43 := HXV1.out.set 1 _
        obtain ⟨V2, hV2⟩ : ∃ W, V1.setCell ⟨B, 1, none⟩ (.string (S (g.rc.g.take 40))) = W := ⟨_, rfl⟩
        rw [hV2] at hbz hbx
        have HYV2 := mkH hbz
        have HXV2 := mkH hbx
        have hHV2 := mkH hV2
        clear hbz hbx hV2
        go_simp
        rw [hHV2.out]
        clear cz fz
        refine hK.out _ _ ?_
        clear hK K
        try simp only [Act.put, List.setIfInBounds_toArray, List.set_cons_zero, List.set_cons_succ]
        refine Rg.anyG_done (by kernel_rfl) ?_ _
        have hown := own_bel HW.out (hBq ▸ HYV2.out)
        have hsz3 : w.heap.size + 2 ≤ V2.heap.size := by have := HYV2.out.size; omega
        have HBe3 := mkH (HBe.out.trans ((hBq ▸ HYV2.out : Below wr.heap.size wr V2).mono (by omega)))
        have hcl : (gC (fG g)).length = 6 := rfl
        have HLG : Hid ((loadVar 43 ⟨B, 0, none⟩).run Tryz.prog V2 = .ok (.agg (gC (fG g)).toArray) V2) := mkH (load_bx (P := Tryz.prog) HXV2.out Tryz.underlying43 rfl infoG)
        have HSRC : Hid (Src Tryz.prog 6 31 (.slice (some ⟨V2.heap.size, 0, none⟩) 1 1) 1 (Fl gC [fG g]) (V2.alloc (.cells (gC (fG g)).toArray 43))) := mkH (src_new (P := Tryz.prog) gC_len gC_one (by decide) Tryz.underlying31 V2 (fG g) 43)
        clear hHeld HW HBe HX2 HY2 e1 e2 e3 e4 e5 e6 HLD HI HS6 HONE HXV1 HYV1 HXV0 HYV0 hHV1 hHV2 HXV2 HYV2
        go_wp2_with (first
          | (refine Wy.wpList_ld (ty := 43) (x := .tmp 5) rfl rfl rfl HLG.out ?_)
          | (at_builtin; refine wpList_append_own_src _ rfl (.tmp 43) (.tmp 45) 31 31 rfl (w.heap.size + 2) 43 (.agg #[.int .i64 0, .string ⟨#[]⟩, .int .i64 0, .int .i64 0, .string ⟨#[]⟩, .int .i64 0]) 6 64 Tryz.underlying31 info_G rfl (by decide) _ k _ rfl (hown.alloc _) _ 1 (Fl gC [fG g]) rfl HSRC.out (by unfold maxLen; omega) (by omega) (by simp; omega) ?_; intro v4 W4 hW4 hg4; have HW4 := mkH hW4; have HB4 := mkH (below_own (hown.alloc _) hg4 ((Below.refl _ V2).alloc hsz3 _) (by simp; omega) : Below (w.heap.size + 2) V2 W4); clear hW4 hg4 HSRC))
        have HW5 : Hid (W4.ownsRow (w.heap.size + 2) 43 6 v4 (k + 1) (Fl gC ((r.got.take (k + 1)).map fG))) := mkH (by rw [HSN.out, Fl_append]; exact HW4.out)
        have HBe4 := mkH (HBe3.out.trans HB4.out)
        clear HW4 HB4 HBe3 hown
        refine ⟨⟨k + 1, by omega, by omega, by go_num, HW5, HBe4⟩, ?_⟩
        simp [intOf]; omega
      · have hTK : (r.got.take k).map fG = (r.got.take 12).map fG := by
          by_cases h : k < r.got.length
          · rw [show k = 12 by omega]
          · rw [List.take_of_length_le (by omega), List.take_of_length_le (by omega)]
        have hown := HW.out
        rw [hTK] at hown
        have hlk : ((r.got.take 12).map fG).length = k := by rw [← hTK, List.length_map, List.length_take]; omega
        obtain ⟨g2, gc2, rfl⟩ := own_form hown
        rw [← hlk] at hown
        have HRG := mkH (RowS.own gC_len hown)
        have HFG := mkH (fun a e => (own_far hown a e).1)
        have HLK := mkH hlk
        clear hlk hown hTK HW
        have hc3 : (¬ (k : Int) < (r.got.length : Int)) ∨ ((k : Int) < (r.got.length : Int) ∧ ¬ (k : Int) < 12) := by omega
        rcases hc3 with c1 | ⟨c1, c2⟩
        · go_wp2_with fail
          go_meet
          case rel => exact ⟨g2, gc2, by rw [HLK.out], HRG, HFG, HBe⟩
        · go_wp2_with fail
          go_meet
          case rel => exact ⟨g2, gc2, by rw [HLK.out], HRG, HFG, HBe⟩
  case rest =>
    obtain ⟨g2, gc2, rfl, HRG, HFG, HBe⟩ := hcut
    generalize hGG : (r.got.take 12).map fG = GL at *
    have HGG := mkH hGG
    have hB1 := HB.out.below HBe.out (by have := HSZ.out; omega)
    have c3 : wc.cell? ⟨w.heap.size, 3, none⟩ = some (.slice ga r.got.length gc) := hB1.cell 3
    have f3 := hB1.frozen 3
    have hb3 : Below w.heap.size w (wc.setCell ⟨w.heap.size, 3, none⟩ (.slice g2 GL.length gc2)) := (HG.out.trans (HBe.out.mono (by omega))).setCell (Nat.le_refl _) _
    have hx3 : Bx (wc.setCell ⟨w.heap.size, 3, none⟩ (.slice g2 GL.length gc2)) w.heap.size (Pv ⟨r.err, r.seq, r.n, GL, r.data, r.about⟩ g2 gc2 da dc ra rc) 34 := hB1.set 3 _
    have hz3 := (HZ.out.below HBe.out (by have := HSZ.out; omega)).other (p := ⟨w.heap.size, 3, none⟩) (by simp) (.slice g2 GL.length gc2)
    have hr3 := HRG.out.setCell (p := ⟨w.heap.size, 3, none⟩) (fun a ha => by have := HFG.out a ha; simp; omega) (.slice g2 GL.length gc2)
    have hs3 : w.heap.size + 2 ≤ (wc.setCell ⟨w.heap.size, 3, none⟩ (.slice g2 GL.length gc2)).heap.size := by
      have h1 := HBe.out.size
      have h2 := HSZ.out
      simp
      omega
    clear hGG hB1 HRG HBe
    go_upto_block 2 with fail
    generalize wc.setCell ⟨w.heap.size, 3, none⟩ (.slice g2 GL.length gc2) = W3 at *
    have HB3 := mkH hb3
    have HX3 := mkH hx3
    have HZ3 := mkH hz3
    have HR3 := mkH hr3
    clear hb3 hx3 hz3 hr3 c3 f3
    go_cut [6] (fun s6 WW => ∃ d2 dc2, s6 = .slice d2 ((r.data.take 5).map (fun s => s.take 100)).length dc2 ∧ Hid (RowT WW d2 ((r.data.take 5).map (fun s => s.take 100))) ∧ Hid (∀ a, d2 = some a → W3.heap.size ≤ a.block) ∧ Hid (Below W3.heap.size W3 WW))
    case first =>
      go_wp2_with fail
      go_loopw [6, 7] (fun v i wr => ∃ k : Nat, k ≤ r.data.length ∧ k ≤ 5 ∧ i = .int .i64 k ∧ Hid (wr.ownsRow W3.heap.size 9 1 v k (T ((r.data.take k).map (fun s => s.take 100)))) ∧ Hid (Below W3.heap.size W3 wr)) (fun _ i _ => 5 - (intOf i).toNat)
      case atStart => exact ⟨0, Nat.zero_le _, Nat.zero_le _, rfl, mkH (World.ownsRow_nil _ _ _ _), mkH (Below.refl _ _)⟩
      case round =>
        obtain ⟨k, hk, hk2, rfl, HW, HBe⟩ := hrel
        have hszw : W3.heap.size ≤ wr.heap.size := HBe.out.size
        have c4 : wr.cell? ⟨w.heap.size, 4, none⟩ = some (.slice da r.data.length dc) := (HX3.out.below HBe.out (by omega)).cell 4
        by_cases hlt : k < r.data.length ∧ k < 5
        · obtain ⟨hlt, hlt2⟩ := hlt
          have c2 : (k : Int) < 5 := by omega
          obtain ⟨b, off, hao, hcl0⟩ := (HM.out.data.below (HB3.out.trans (HBe.out.mono (by omega)))) (by omega)
          obtain ⟨s, hx⟩ := some_of hlt
          have hcl : wr.cell? ⟨b, off + k, none⟩ = some (.string (S s)) := by rw [hcl0 k hlt, getD_of hx]
          subst hao
          obtain ⟨m1, e1, e2, e3⟩ := cutL 100 s
          have e1 : (if (100 : Int) < ((S s).size : Int) then (100 : Int) else ((S s).size : Int)) = (m1 : Int) := e1
          have HSN := mkH (fS_snoc hx)
          clear hcl0 hx
          go_wp2_with fail
          refine Rg.region_G hmx 15 (fun W => W.cell? ⟨w.heap.size, 4, none⟩ = some (.slice (some ⟨b, off, none⟩) r.data.length dc) ∧ W.cell? ⟨b, off + k, none⟩ = some (.string (S s))) ⟨c4, hcl⟩ (fun hHeld => ?_)
          have HOV0 := mkH (own_bel HW.out (below_drew wr))
          have HBV0 := mkH (HBe.out.trans ((below_drew wr).mono hszw))
          have hsV0 : W3.heap.size ≤ wr.drew.heap.size := hszw
          generalize wr.drew = V0 at *
          refine Rg.anyG_pure (i := 0) (oi := { dst := some 60, op := _, type := _, pos := _, after := _, guard := _ }) (v := ?_) rfl (by kernel_rfl) (by kernel_rfl) (by kernel_rfl) (by rfl) (fun _ _ _ h => h) (Or.inl ⟨by rfl, ?_⟩) (fun _ => by assumption) ?_
          rotate_left
          · (intro W hSw; (try dsimp only at hSw); go_simp; try (with_reducible rfl))
          try simp only [Act.put, List.setIfInBounds_toArray, List.set_cons_zero, List.set_cons_succ]
          refine Rg.anyG_pure (i := 1) (oi := { dst := some 61, op := _, type := _, pos := _, after := _, guard := _ }) (v := ?_) rfl (by kernel_rfl) (by kernel_rfl) (by kernel_rfl) (by rfl) (fun _ _ _ h => h) (Or.inl ⟨by rfl, ?_⟩) (fun _ => by assumption) ?_
          rotate_left
          · (intro W hSw; (try dsimp only at hSw); go_simp; try (with_reducible rfl))
          try simp only [Act.put, List.setIfInBounds_toArray, List.set_cons_zero, List.set_cons_succ]
          refine Rg.anyG_take (i := 2) (oi := { dst := some 62, op := _, type := _, pos := _, after := _, guard := _ }) (v := ?_) rfl (by kernel_rfl) (by kernel_rfl) (by kernel_rfl) [4, 5, 13, 14, 15] (by kernel_rfl) (fun _ _ _ h => h) (Or.inl ⟨by rfl, ?_⟩) (by assumption) ?_
          rotate_left
          · (intro W hSw; (try dsimp only at hSw); go_simp; try (with_reducible rfl))
          try simp only [Act.put, List.setIfInBounds_toArray, List.set_cons_zero, List.set_cons_succ]
          refine Rg.anyG_pure (i := 3) (oi := { dst := some 63, op := _, type := _, pos := _, after := _, guard := _ }) (v := ?_) rfl (by kernel_rfl) (by kernel_rfl) (by kernel_rfl) (by rfl) (fun _ _ _ h => h) (Or.inl ⟨by rfl, ?_⟩) (fun _ => by assumption) ?_
          rotate_left
          · (intro W hSw; (try dsimp only at hSw); go_simp; try (with_reducible rfl))
          try simp only [Act.put, List.setIfInBounds_toArray, List.set_cons_zero, List.set_cons_succ]
          refine Rg.anyG_pure (i := 4) (oi := { dst := some 64, op := _, type := _, pos := _, after := _, guard := _ }) (v := ?_) rfl (by kernel_rfl) (by kernel_rfl) (by kernel_rfl) (by rfl) (fun _ _ _ h => h) (Or.inl ⟨by rfl, ?_⟩) (fun _ => by assumption) ?_
          rotate_left
          · (intro W hSw; (try dsimp only at hSw); go_simp; try (with_reducible rfl))
          try simp only [Act.put, List.setIfInBounds_toArray, List.set_cons_zero, List.set_cons_succ]
          refine Rg.anyG_take (i := 5) (oi := { dst := some 65, op := _, type := _, pos := _, after := _, guard := _ }) (v := ?_) rfl (by kernel_rfl) (by kernel_rfl) (by kernel_rfl) [13, 14, 15] (by kernel_rfl) (fun _ _ _ h => h) (Or.inl ⟨by rfl, ?_⟩) (by assumption) ?_
          rotate_left
          · (intro W hSw; (try dsimp only at hSw); go_simp; try (with_reducible rfl))
          try simp only [Act.put, List.setIfInBounds_toArray, List.set_cons_zero, List.set_cons_succ]
          refine Rg.anyG_pure (i := 6) (oi := { dst := some 66, op := _, type := _, pos := _, after := _, guard := _ }) (v := ?_) rfl (by kernel_rfl) (by kernel_rfl) (by kernel_rfl) (by rfl) (fun _ _ _ h => h) (Or.inl ⟨by rfl, ?_⟩) (fun _ => by assumption) ?_
          rotate_left
          · (intro W hSw; (try dsimp only at hSw); go_simp; try (with_reducible rfl))
          try simp only [Act.put, List.setIfInBounds_toArray, List.set_cons_zero, List.set_cons_succ]
          refine Rg.anyG_take (i := 7) (oi := { dst := some 67, op := _, type := _, pos := _, after := _, guard := _ }) (v := ?_) rfl (by kernel_rfl) (by kernel_rfl) (by kernel_rfl) [9, 10, 11, 12, 13, 14, 15] (by kernel_rfl) (fun _ _ _ h => h) (Or.inl ⟨by rfl, ?_⟩) (by assumption) ?_
          rotate_left
          · (intro W hSw; (try dsimp only at hSw); go_simp; try (with_reducible rfl))
          try simp only [Act.put, List.setIfInBounds_toArray, List.set_cons_zero, List.set_cons_succ]
          refine Rg.anyG_pure (i := 8) (oi := { dst := some 68, op := _, type := _, pos := _, after := _, guard := _ }) (v := ?_) rfl (by kernel_rfl) (by kernel_rfl) (by kernel_rfl) (by rfl) (fun _ _ _ h => h) (Or.inl ⟨by rfl, ?_⟩) (fun _ => by assumption) ?_
          rotate_left
          · (intro W hSw; (try dsimp only at hSw); go_simp; try (with_reducible rfl))
          try simp only [Act.put, List.setIfInBounds_toArray, List.set_cons_zero, List.set_cons_succ]
          refine Rg.anyG_pure (i := 9) (oi := { dst := some 69, op := _, type := _, pos := _, after := _, guard := _ }) (v := ?_) rfl (by kernel_rfl) (by kernel_rfl) (by kernel_rfl) (by rfl) (fun _ _ _ h => h) (Or.inl ⟨by rfl, ?_⟩) (fun _ => by assumption) ?_
          rotate_left
          · (intro W hSw; (try dsimp only at hSw); go_simp; try (with_reducible rfl))
          try simp only [Act.put, List.setIfInBounds_toArray, List.set_cons_zero, List.set_cons_succ]
          refine Rg.anyG_take (i := 10) (oi := { dst := some 70, op := _, type := _, pos := _, after := _, guard := _ }) (v := ?_) rfl (by kernel_rfl) (by kernel_rfl) (by kernel_rfl) [11, 12, 13, 14, 15] (by kernel_rfl) (fun _ _ _ h => h) (Or.inl ⟨by rfl, ?_⟩) (by assumption) ?_
          rotate_left
          · (intro W hSw; (try dsimp only at hSw); go_simp; try (with_reducible rfl))
          try simp only [Act.put, List.setIfInBounds_toArray, List.set_cons_zero, List.set_cons_succ]
          refine Rg.anyG_pure (i := 11) (oi := { dst := some 71, op := _, type := _, pos := _, after := _, guard := _ }) (v := ?_) rfl (by kernel_rfl) (by kernel_rfl) (by kernel_rfl) (by rfl) (fun _ _ _ h => h) (Or.inl ⟨by rfl, ?_⟩) (fun _ => by assumption) ?_
          rotate_left
          · (intro W hSw; (try dsimp only at hSw); go_simp; try (with_reducible rfl))
          try simp only [Act.put, List.setIfInBounds_toArray, List.set_cons_zero, List.set_cons_succ]
          refine Rg.anyG_pure (i := 12) (oi := { dst := some 72, op := _, type := _, pos := _, after := _, guard := _ }) (v := .int .i64 (m1 : Int)) rfl (by kernel_rfl) (by kernel_rfl) (by kernel_rfl) (by rfl) (fun _ _ _ h => h) (Or.inl ⟨by rfl, ?_⟩) (fun _ => by assumption) ?_
          · (intro W hSw; (try dsimp only at hSw); go_simp; try (with_reducible rfl))
          try simp only [Act.put, List.setIfInBounds_toArray, List.set_cons_zero, List.set_cons_succ]
          refine Rg.anyG_pure (i := 13) (oi := { dst := some 73, op := _, type := _, pos := _, after := _, guard := _ }) (v := .string (S (s.take 100))) rfl (by kernel_rfl) (by kernel_rfl) (by kernel_rfl) (by rfl) (fun _ _ _ h => h) (Or.inl ⟨by rfl, ?_⟩) (fun _ => by assumption) ?_
          · (intro W hSw; (try dsimp only at hSw); go_simp; try (with_reducible rfl))
          try simp only [Act.put, List.setIfInBounds_toArray, List.set_cons_zero, List.set_cons_succ]
          refine Rg.anyG_ready (rs := [14]) (by kernel_rfl) (by simp) ?_
          refine (Rg.AllG.cons (o := { dst := some 74, op := _, type := _, pos := _, after := _, guard := _ }) rfl (fun K hK => ?_) Rg.AllG.nil)
          have hal : Below V0.heap.size V0 (V0.alloc (.cells #[.string (S (s.take 100))] 9)) := (Below.refl _ _).alloc (Nat.le_refl _) _
          have HOV1 := mkH (own_bel HOV0.out hal)
          have HBV1 := mkH (HBV0.out.trans (hal.mono hsV0))
          have HSV1 := mkH (src_str V0 (S (s.take 100)) 9)
          have hsV1 := Nat.le_trans hsV0 hal.size
          have q4 : (V0.alloc (.cells #[.string (S (s.take 100))] 9)).cell? ⟨w.heap.size, 4, none⟩ = some (.slice (some ⟨b, off, none⟩) r.data.length dc) := (hal.cell (p := ⟨w.heap.size, 4, none⟩) (by simp; omega)).trans hHeld.1
          have q5 : (V0.alloc (.cells #[.string (S (s.take 100))] 9)).cell? ⟨b, off + k, none⟩ = some (.string (S s)) := (hal.cell (p := ⟨b, off + k, none⟩) (World.block_lt_of_cell? V0 _ hHeld.2)).trans hHeld.2
          go_simp
          refine hK.out _ _ ?_ (fun hHeld => ?_)
          · exact ⟨q4, q5⟩
          clear hK K
          try simp only [Act.put, List.setIfInBounds_toArray, List.set_cons_zero, List.set_cons_succ]
          clear hal q4 q5
          refine Rg.anyG_ready (rs := [15]) (by kernel_rfl) (by simp) ?_
          refine Rg.AllG.last (o := { dst := some 75, op := _, type := _, pos := _, after := _, guard := _ }) rfl (by kernel_rfl) (fun K hK => ?_)
          refine step_append (by rfl) (.tmp 60) (.tmp 74) 29 29 (by rfl) W3.heap.size 9 (.string ⟨#[]⟩) 1 16 Tryz.underlying29 info_S rfl (by decide) _ k _ (by rfl) HOV1.out _ 1 [.string (S (s.take 100))] (by rfl) HSV1.out (by unfold maxLen; omega) (by omega) hsV1 (fun v4 W4 hW4 hg4 => ?_)
          have HW4 := mkH hW4
          have HB4 := mkH (HBV1.out.trans (below_own HOV1.out hg4 (Below.refl _ _) hsV1))
          clear hW4 hg4
          refine hK.out _ _ ?_
          clear hK K
          try simp only [Act.put, List.setIfInBounds_toArray, List.set_cons_zero, List.set_cons_succ]
          refine Rg.anyG_pure (i := 16) (oi := { dst := some 6, op := _, type := _, pos := _, after := _, guard := _ }) (v := ?_) rfl (by kernel_rfl) (by kernel_rfl) (by kernel_rfl) (by rfl) (fun _ _ _ h => h) (Or.inl ⟨by rfl, ?_⟩) (fun h => absurd (h.symm.trans (show _ = true by kernel_rfl)) Bool.false_ne_true) ?_
          rotate_left
          · (intro W hSw; (try dsimp only at hSw); go_simp; try (with_reducible rfl))
          try simp only [Act.put, List.setIfInBounds_toArray, List.set_cons_zero, List.set_cons_succ]
          refine Rg.anyG_done (by kernel_rfl) ?_ _
          go_wp2_with fail
          have HW5 : Hid (W4.ownsRow W3.heap.size 9 1 v4 (k + 1) (T ((r.data.take (k + 1)).map (fun s => s.take 100)))) := mkH (by rw [HSN.out, T_append]; exact HW4.out)
          refine ⟨⟨k + 1, by omega, by omega, by go_num, HW5, HB4⟩, ?_⟩
          simp [intOf]; omega
        · have hTK : (r.data.take k).map (fun s => s.take 100) = (r.data.take 5).map (fun s => s.take 100) := by
            by_cases h : k < r.data.length
            · rw [show k = 5 by omega]
            · rw [List.take_of_length_le (by omega), List.take_of_length_le (by omega)]
          have hown := HW.out
          rw [hTK] at hown
          obtain ⟨d2, dc2, rfl⟩ := own_form hown
          obtain ⟨hlk, -, hrt⟩ := RowT.own hown
          have HRD := mkH hrt
          have HFD := mkH (fun a e => (own_far hown a e).1)
          have HLK := mkH hlk
          clear hlk hown hTK HW hrt
          have hc3 : (¬ (k : Int) < (r.data.length : Int)) ∨ ((k : Int) < (r.data.length : Int) ∧ ¬ (k : Int) < 5) := by omega
          rcases hc3 with c1 | ⟨c1, c2⟩
          · go_wp2_with fail
            go_meet
            case rel => exact ⟨d2, dc2, by rw [HLK.out], HRD, HFD, HBe⟩
          · go_wp2_with fail
            go_meet
            case rel => exact ⟨d2, dc2, by rw [HLK.out], HRD, HFD, HBe⟩
    case rest =>
      obtain ⟨d2, dc2, rfl, HRD, HFD, HBe⟩ := hcut
      generalize hDD : (r.data.take 5).map (fun s => s.take 100) = DL at *
      have HDD := mkH hDD
      have hB4 := HX3.out.below HBe.out (by omega)
      have c4 : wc.cell? ⟨w.heap.size, 4, none⟩ = some (.slice da r.data.length dc) := hB4.cell 4
      have f4 := hB4.frozen 4
      have hb4 : Below w.heap.size w (wc.setCell ⟨w.heap.size, 4, none⟩ (.slice d2 DL.length dc2)) := (HB3.out.trans (HBe.out.mono (by omega))).setCell (Nat.le_refl _) _
      have hx4 : Bx (wc.setCell ⟨w.heap.size, 4, none⟩ (.slice d2 DL.length dc2)) w.heap.size (Pv ⟨r.err, r.seq, r.n, GL, DL, r.about⟩ g2 gc2 d2 dc2 ra rc) 34 := hB4.set 4 _
      have hz4 := (HZ3.out.below HBe.out (by omega)).other (p := ⟨w.heap.size, 4, none⟩) (by simp) (.slice d2 DL.length dc2)
      have hr4 := (HR3.out.below HBe.out).setCell (p := ⟨w.heap.size, 4, none⟩) (fun a ha => by have := HFG.out a ha; simp; omega) (.slice d2 DL.length dc2)
      have hd4 := rowT_set HRD.out (p := ⟨w.heap.size, 4, none⟩) (fun a ha => by have := HFD.out a ha; simp; omega) (.slice d2 DL.length dc2)
      have hs4 : w.heap.size + 2 ≤ (wc.setCell ⟨w.heap.size, 4, none⟩ (.slice d2 DL.length dc2)).heap.size := by
        have h1 := HBe.out.size
        simp
        omega
      obtain ⟨m, e1, e2, e3⟩ : ∃ m : Nat, (if (10 : Int) < (r.about.length : Int) then (10 : Int) else (r.about.length : Int)) = (m : Int) ∧ (m : Int) ≤ (rc : Int) ∧ (r.about.take 10).length = m := by
        refine ⟨(r.about.take 10).length, ?_, ?_, rfl⟩
        · rw [List.length_take]; split <;> omega
        · rw [List.length_take]; omega
      have HFD2 : Hid (∀ a, d2 = some a → w.heap.size + 2 ≤ a.block) := mkH (fun a ha => by have := HFD.out a ha; omega)
      clear hDD hB4 HR3 HX3 HZ3 HRD HFD HBe
      go_upto_region 15 with fail
      generalize wc.setCell ⟨w.heap.size, 4, none⟩ (.slice d2 DL.length dc2) = W6 at *
      have HB6 := mkH hx4
      have HZ6 := mkH hz4
      have HRG6 := mkH hr4
      have HRD6 := mkH hd4
      have HSB := mkH hb4
      have HRA6 := mkH ((HM.out.about.below hb4).take 10)
      have hq6 : (W6.alloc (.cells #[] 95)).cell? ⟨w.heap.size, 5, none⟩ = some (.slice ra r.about.length rc) := (hx4.alloc _).cell 5
      have hq7 : W6.cell? ⟨w.heap.size, 5, none⟩ = some (.slice ra r.about.length rc) := hx4.cell 5
      have HSRC := mkH (RowS.src rC_len rC_one (by decide) (P := Tryz.prog) Tryz.underlying32 (HRA6.out.below ((Below.refl _ W6).alloc (Nat.le_refl _) (.cells #[] 95))) rc)
      rw [e3] at HSRC
      clear hx4 hz4 hr4 hd4 hb4 c4 f4 hs3
      go_upto_region 16 with (at_builtin; refine wpList_append_own_src _ rfl (.tmp 78) (.tmp 85) 32 32 rfl W6.heap.size 95 (.agg #[.int .i64 0, .int .i64 0]) 2 16 Tryz.underlying32 info_R rfl (by decide) _ 0 [] rfl (World.ownsRow_made (e := 95) (size := 2) W6 #[] 0 (Nat.le_refl _) (Nat.zero_le _) rfl) _ m (Fl rC (r.about.take 10)) rfl HSRC.out (by unfold maxLen; omega) (by omega) (by simp) ?_; intro v8 W8 hW8 hg8; have HE8 := mkH (below_own (World.ownsRow_made (e := 95) (size := 2) W6 #[] 0 (Nat.le_refl _) (Nat.zero_le _) rfl) hg8 ((Below.refl _ W6).alloc (Nat.le_refl _) _) (by simp) : Below W6.heap.size W6 W8); have hW8' : W8.ownsRow W6.heap.size 95 2 v8 m (Fl rC (r.about.take 10)) := (by simpa using hW8); obtain ⟨ra8, rc8, rfl⟩ := own_form hW8'; have HO8 := mkH hW8'; have HB8 := mkH (bx_bel HB6.out HE8.out); have cq := HB8.out.cell 5; have cq8 : W8.cell? ⟨w.heap.size, 5, none⟩ = some (.slice ra r.about.length rc) := cq; have fq8 := HB8.out.frozen 5; clear hW8 hg8 hW8' cq HSRC)
      have hszW8 : W6.heap.size ≤ W8.heap.size := HE8.out.size
      obtain ⟨D4, hD4⟩ : ∃ D4, D4 = Pv (fR r) g2 gc2 d2 dc2 ra8 rc8 := ⟨_, rfl⟩
      have hB9 : Bx (W8.setCell ⟨w.heap.size, 5, none⟩ (.slice ra8 m rc8)) w.heap.size D4 34 := by
        have h1 := HB8.out.set 5 (.slice ra8 m rc8)
        rw [hD4]
        have e : (Pv ⟨r.err, r.seq, r.n, GL, DL, r.about⟩ g2 gc2 d2 dc2 ra rc).setIfInBounds 5 (.slice ra8 m rc8) = Pv (fR r) g2 gc2 d2 dc2 ra8 rc8 := by
          simp [Pv, fR, ← e3, HGG.out, HDD.out]
        rw [e] at h1
        exact h1
      have hfar : ∀ a, ra8 = some a → w.heap.size + 2 ≤ a.block := fun a ha => Nat.le_trans hs4 (own_far HO8.out a ha).1
      have hZ9 := (bx_bel HZ6.out HE8.out).other (p := ⟨w.heap.size, 5, none⟩) (by simp) (.slice ra8 m rc8)
      have hRG9 := (HRG6.out.below HE8.out).setCell (p := ⟨w.heap.size, 5, none⟩) (fun a ha => by have := HFG.out a ha; simp; omega) (.slice ra8 m rc8)
      have hRD9 := rowT_set (HRD6.out.below HE8.out) (p := ⟨w.heap.size, 5, none⟩) (fun a ha => by have := HFD2.out a ha; simp; omega) (.slice ra8 m rc8)
      have hRA9 : RowR (W8.setCell ⟨w.heap.size, 5, none⟩ (.slice ra8 m rc8)) ra8 (r.about.take 10) := RowS.setCell (RowS.own rC_len (by rw [e3]; exact HO8.out)) (fun a ha => by have := hfar a ha; simp; omega) _
      have hSB9 : Below w.heap.size w (W8.setCell ⟨w.heap.size, 5, none⟩ (.slice ra8 m rc8)) := (HSB.out.trans (HE8.out.mono (by omega))).setCell (Nat.le_refl _) _
      have hs6 : D4.size = 6 := by rw [hD4]; rfl
      have HI4 : Hid ((Tryz.prog.info? 34).map (·.size) = some D4.size) := mkH (by rw [hs6]; exact infoP)
      have HZS : Hid (ZP.size = D4.size) := mkH (by rw [hs6]; rfl)
      have HO4 : Hid (D4.all (fun x => x.oneCell') = true) := mkH (by rw [hD4]; exact Pv_one _ _ _ _ _ _ _)
      generalize W8.setCell ⟨w.heap.size, 5, none⟩ (.slice ra8 m rc8) = W9 at *
      have HL9 := mkH (load_bx (P := Tryz.prog) hB9 Tryz.underlying34 rfl HI4.out)
      have HZ9 := mkH hZ9
      have HL10 := mkH (load_bx (P := Tryz.prog) (hZ9.row HZS.out) Tryz.underlying34 rfl HI4.out)
      have HR9 := mkH (And.intro hRG9 (And.intro hRD9 (And.intro hRA9 hSB9)))
      have HF9 := mkH hfar
      have HD4 := mkH hD4
      clear hZ9 hRG9 hRD9 hRA9 hSB9 hfar hD4 hB9 HO8 HB8 HE8 HB6 HZ6 HRG6 HRD6 HRA6 HSB hq6 hq7 cq8 fq8
      go_wp2_with (first
        | (refine Wy.wpList_ld (ty := 34) (x := .tmp 1) rfl rfl rfl HL9.out ?_)
        | (refine wpList_st rfl (ty := 34) (x := .tmp 2) (y := .tmp 88) rfl rfl rfl HZ9.out HI4.out HZS.out HO4.out ?_))
      refine ret_bx 2 34 rfl (w.heap.size + 1) rfl HL10.out rfl ?_
      obtain ⟨q1, q2, q3, q4⟩ := HR9.out
      refine ⟨g2, gc2, d2, dc2, ra8, rc8, by rw [HD4.out], ⟨?_, ?_, ?_⟩, ⟨fun a ha => by have := HFG.out a ha; omega, fun a ha => by have := HFD2.out a ha; omega, fun a ha => by have := HF9.out a ha; omega⟩, bel_setRow q4 (Nat.le_succ _) _⟩
      · show RowG _ g2 ((r.got.take 12).map fG)
        rw [HGG.out]
        exact RowS.setRow q1 (fun a ha => by have := HFG.out a ha; omega) D4
      · show RowT _ d2 ((r.data.take 5).map (fun s => s.take 100))
        rw [HDD.out]
        exact Wk.RowT.setRow q2 (fun a ha => by have := HFD2.out a ha; omega) D4
      · exact RowS.setRow q3 (fun a ha => by have := HF9.out a ha; omega) D4
end Go.Proofs.YtenkgpfeifflnaaGreat.Sf
