/-
  QuB, joined by mrg.py.
-/
import Derived.Test.YtgbbajeeelgbhaaGreatDoorSqAG
import Derived.Test.YtgbbajeeelgbhaaGreatDoorSqAH
import Derived.Test.YtgbbajeeelgbhaaGreatDoorSqAI
import Derived.Deep.Cut

namespace Go.Proofs.YtgbbajeeelgbhaaGreatDoor.Qb
open Go.RowKit Kt Gf Gk Gp Qm Qa Ga Gb Gm
open Gr (RowS Fl Gl Go' gC)
open Pl (Rg)
open Pr (Rw)
set_option linter.unusedVariables false
set_option linter.unusedSectionVars false
set_option linter.unusedSimpArgs false
set_option maxRecDepth 20000

def fresh : G := ⟨1, [], [], ⟨#[]⟩⟩
def keepOf (cf : List Cf) (q : Int) : Int := match cf[q.toNat]? with | some c => c.keep | none => 0
/-- A group as it is looked at, and what there is then. -/
def lookG (cf : List Cf) (l : List E) (q : Int) (s : ByteArray) (now : Int) : G := match atX id l q s with | none => fresh | some x => expire x.g now (keepOf cf q)
def lookL (cf : List Cf) (l : List E) (q : Int) (s : ByteArray) (now : Int) : List E := match atX id l q s with | none => l | some x => put id l ⟨q, s, expire x.g now (keepOf cf q)⟩
theorem at_p (xs : List X) (q : Int) (s : ByteArray) : atX id (xs.map X.p) q s = (atX X.p xs q s).map X.p := map_at (f := X.p) (h := id) X.p (fun _ => rfl) xs q s
theorem put_p (xs : List X) (x : X) : (put X.p xs x).map X.p = put id (xs.map X.p) x.p := map_put (f := X.p) (h := id) X.p (fun _ => rfl) xs x
theorem gC_one (g : G) (ka : Option Addr) (kc : Nat) (ma : Option Addr) (mc : Nat) : (gC g ka kc ma mc).all (fun x => x.oneCell') = true := by unfold gC; rw [List.all_toArray]; rfl
theorem ok_fresh : Ok fresh := ⟨⟨by unfold Sm fresh; simp, ⟨fun m hm => by simp [fresh] at hm, fun m hm => by simp [fresh] at hm⟩⟩, by simp [fresh], by simp [fresh]⟩
theorem ok_exp {g : G} (h : Ok g) (now keep : Int) : Ok (expire g now keep) :=
  ⟨ok_expire h.1 now keep, Nat.le_trans (by unfold expire; exact List.length_filter_le _ _) h.2.1, Nat.le_trans (by unfold expire; exact List.length_filter_le _ _) h.2.2⟩
theorem below_drew (w : World) : Below w.heap.size w w.drew := (Below.refl _ _).drew
section
variable {P : Program} {ops : Array Oper} {o : Oper} {a : Act} {w W' : World} {K : Act → World → Prop} {Q : Exit → Act → World → Prop} {E : Prop}
theorem step_mapup (hg : o.guard = none) (t : TypeId) (m k x : Operand) (ho : o.op = .mapUpdate t m k x) (mv kv xv : Value) (hm : a.eval m = mv) (hk : a.eval k = kv) (hx : a.eval x = xv) (hr : (Instr.mapUpdate t mv kv xv).run P w = .ok () W') (hK : K (a.put o.dst undef) W') :
    if Region.wanted o (yielded ops a.tmps) = true then Oper.wp P o a w K Q else E := by
  have hw : Region.wanted o (yielded ops a.tmps) = true := by simp [Region.wanted, hg]
  rw [if_pos hw]
  unfold Oper.wp execOp
  simp only [ho, hm, hk, hx, Sem.run_bind, Result.andThen_ok, hr]
  exact hK
end

/-- What look hands back and leaves. -/
def LkP (w : World) (Xb Mb : Nat) (cf : List Cf) (sv : List Rg) (xs : List X) (qa : Option Addr) (qc : Nat) (sa : Option Addr) (sc : Nat) (q : Int) (s : ByteArray) (now : Int) (e : Ending) (w' : World) : Prop :=
  ∃ ka kc ma mc xs', e = .returned (.agg (gC (lookG cf (xs.map X.p) q s now) ka kc ma mc)) ∧ Gl w' (lookG cf (xs.map X.p) q s now) ka kc ma mc ∧ xs'.map X.p = lookL cf (xs.map X.p) q s now ∧ Ex w' Xb Mb cf sv xs' qa qc sa sc ∧ Fr (fun k => k = Mb) w w'

set_option maxHeartbeats 4000000 in
theorem look_none {w : World} {Xb Mb : Nat} {cf : List Cf} {sv : List Rg} {xs : List X} {qa : Option Addr} {qc : Nat} {sa : Option Addr} {sc : Nat} (h : Ex w Xb Mb cf sv xs qa qc sa sc) {q : Int} {s : ByteArray} (hk : wfK q s) (now : Int) (hn : Sm now) (ha : atX X.p xs q s = none) :
    Calls Tryz.prog 268 #[.pointer (some ⟨Xb, 0, none⟩), .agg #[Value.int .i64 q, .string s], .int .i64 now] w fun e w' => LkP w Xb Mb cf sv xs qa qc sa sc q s now e w' := by
  have hmx : Tryz.prog.follows .mixedOrders = true := by kernel_rfl
  have hig : (Tryz.prog.info? 126).map (·.size) = some 4 := by kernel_rfl
  have HX := mkH h
  have HK := mkH hk
  have HS0 := mkH (And.intro (((Below.refl w.heap.size w).alloc (Nat.le_refl _) (.cells #[Value.int .i64 q, .string s] 192)).alloc (by simp) (.cells #[Value.int .i64 0, .slice none 0 0, .slice none 0 0, .string ⟨#[]⟩] 126)) ((Bx.new w #[Value.int .i64 q, .string s] 192).alloc (.cells #[Value.int .i64 0, .slice none 0 0, .slice none 0 0, .string ⟨#[]⟩] 126)))
  have HR := mkH (Bx.new1 w (.cells #[Value.int .i64 q, .string s] 192) #[Value.int .i64 0, .slice none 0 0, .slice none 0 0, .string ⟨#[]⟩] 126)
  have HLK : Hid (∀ W, Below w.heap.size w W → (Instr.lookup 159 (.map (some Mb)) (.agg #[Value.int .i64 q, .string s]) true).run Tryz.prog W = .ok (.tuple #[.agg #[Value.int .i64 0, .slice none 0 0, .slice none 0 0, .string ⟨#[]⟩], .bool false]) W) := mkH (fun W hW => by
    have := look2 (HX.out.below hW).m HK.out
    rw [ha] at this
    exact this)
  have HE : Hid (lookG cf (xs.map X.p) q s now = fresh ∧ lookL cf (xs.map X.p) q s now = xs.map X.p) := mkH (by unfold lookG lookL; rw [at_p, ha]; exact ⟨rfl, rfl⟩)
  clear h hk ha
  go_enter Tryz.func268, Tryz.ntmps268
  go_wp2_with fail
  generalize (w.alloc (.cells #[Value.int .i64 q, .string s] 192)).alloc (.cells #[Value.int .i64 0, .slice none 0 0, .slice none 0 0, .string ⟨#[]⟩] 126) = w0 at *
  obtain ⟨R, hR⟩ : ∃ R, w.heap.size + 1 = R := ⟨_, rfl⟩
  rw [hR] at HR ⊢
  have hwR : w.heap.size ≤ R := by omega
  clear hR
  refine wp_region_held_drew (S := fun W => Below w.heap.size w W ∧ Bx W w.heap.size #[Value.int .i64 q, .string s] 192) hmx ⟨HS0.out.1.trans ((below_drew w0).mono HS0.out.1.size), HS0.out.2.bel (below_drew w0)⟩ (fun hHeld => ?_)
  have HR0 := mkH (HR.out.bel (below_drew w0))
  have hw0 : w.heap.size ≤ w0.drew.heap.size := hHeld.1.size
  have hw1 : w.heap.size < w0.drew.heap.size := hHeld.2.lt
  clear HR
  generalize w0.drew = V0 at *
  refine wpAnyH_take (i := 0) (oi := { dst := some 10, op := _, type := _, pos := _, after := _, guard := _ }) (v := ?_) rfl (by kernel_rfl) (by kernel_rfl) (by kernel_rfl) (fun _ _ _ h => h) (Or.inl ⟨by rfl, ?_⟩) (by assumption) ?_
  rotate_left
  · (intro W hSw; (try dsimp only at hSw); go_simp; try (with_reducible rfl))
  try simp only [Act.put, List.setIfInBounds_toArray, List.set_cons_zero, List.set_cons_succ]
  refine wpAnyH_take (i := 1) (oi := { dst := some 11, op := _, type := _, pos := _, after := _, guard := _ }) (v := ?_) rfl (by kernel_rfl) (by kernel_rfl) (by kernel_rfl) (fun _ _ _ h => h) (Or.inl ⟨by rfl, ?_⟩) (by assumption) ?_
  rotate_left
  · (intro W hSw; (try dsimp only at hSw); go_simp; try (with_reducible rfl))
  try simp only [Act.put, List.setIfInBounds_toArray, List.set_cons_zero, List.set_cons_succ]
  refine wpAnyH_take (i := 2) (oi := { dst := some 12, op := _, type := _, pos := _, after := _, guard := _ }) (v := ?_) rfl (by kernel_rfl) (by kernel_rfl) (by kernel_rfl) (fun _ _ _ h => h) (Or.inl ⟨by rfl, ?_⟩) (by assumption) ?_
  rotate_left
  · (intro W hSw; (try dsimp only at hSw); go_simp; try (with_reducible rfl))
  try simp only [Act.put, List.setIfInBounds_toArray, List.set_cons_zero, List.set_cons_succ]
  refine wpAnyH_take (i := 3) (oi := { dst := some 13, op := _, type := _, pos := _, after := _, guard := _ }) (v := ?_) rfl (by kernel_rfl) (by kernel_rfl) (by kernel_rfl) (fun _ _ _ h => h) (Or.inl ⟨by rfl, ?_⟩) (by assumption) ?_
  rotate_left
  · (intro W hSw; (try dsimp only at hSw); have c2 := (HX.out.below hSw.1).bx.cell 2 _ rfl; go_simp; try (with_reducible rfl))
  try simp only [Act.put, List.setIfInBounds_toArray, List.set_cons_zero, List.set_cons_succ]
  refine wpAnyH_take (i := 4) (oi := { dst := some 14, op := _, type := _, pos := _, after := _, guard := _ }) (v := ?_) rfl (by kernel_rfl) (by kernel_rfl) (by kernel_rfl) (fun _ _ _ h => h) (Or.inl ⟨by rfl, ?_⟩) (by assumption) ?_
  rotate_left
  · (intro W hSw; (try dsimp only at hSw); have c0 := hSw.2.cell 0 _ rfl; have c1 := hSw.2.cell 1 _ rfl; go_simp; try (with_reducible rfl))
  try simp only [Act.put, List.setIfInBounds_toArray, List.set_cons_zero, List.set_cons_succ]
  refine wpAnyH_take (i := 5) (oi := { dst := some 15, op := _, type := _, pos := _, after := _, guard := _ }) (v := ?_) rfl (by kernel_rfl) (by kernel_rfl) (by kernel_rfl) (fun _ _ _ h => h) (Or.inl ⟨by rfl, ?_⟩) (by assumption) ?_
  rotate_left
  · (intro W hSw; (try dsimp only at hSw); have hl := HLK.out W hSw.1; go_simp; try (with_reducible rfl))
  try simp only [Act.put, List.setIfInBounds_toArray, List.set_cons_zero, List.set_cons_succ]
  refine wpAnyH_take (i := 6) (oi := { dst := some 9, op := _, type := _, pos := _, after := _, guard := _ }) (v := ?_) rfl (by kernel_rfl) (by kernel_rfl) (by kernel_rfl) (fun _ _ _ h => h) (Or.inl ⟨by rfl, ?_⟩) (by assumption) ?_
  rotate_left
  · (intro W hSw; (try dsimp only at hSw); go_simp; try (with_reducible rfl))
  try simp only [Act.put, List.setIfInBounds_toArray, List.set_cons_zero, List.set_cons_succ]
  refine wpAnyH_take (i := 7) (oi := { dst := some 16, op := _, type := _, pos := _, after := _, guard := _ }) (v := ?_) rfl (by kernel_rfl) (by kernel_rfl) (by kernel_rfl) (fun _ _ _ h => h) (Or.inl ⟨by rfl, ?_⟩) (by assumption) ?_
  rotate_left
  · (intro W hSw; (try dsimp only at hSw); go_simp; try (with_reducible rfl))
  try simp only [Act.put, List.setIfInBounds_toArray, List.set_cons_zero, List.set_cons_succ]
  refine wpAnyH_take (i := 8) (oi := { dst := some 17, op := _, type := _, pos := _, after := _, guard := _ }) (v := ?_) rfl (by kernel_rfl) (by kernel_rfl) (by kernel_rfl) (fun _ _ _ h => h) (Or.inl ⟨by rfl, ?_⟩) (by assumption) ?_
  rotate_left
  · (intro W hSw; (try dsimp only at hSw); go_simp; try (with_reducible rfl))
  try simp only [Act.put, List.setIfInBounds_toArray, List.set_cons_zero, List.set_cons_succ]
  refine wpAnyH_ready (rs := [9]) (by kernel_rfl) (by simp) ?_
  refine (AllReadyH.cons (o := { dst := some 7, op := _, type := _, pos := _, after := _, guard := _ }) rfl (fun K hK => ?_) AllReadyH.nil)
  have hal : Below V0.heap.size V0 (V0.alloc (.cells #[Value.int .i64 0, .slice none 0 0, .slice none 0 0, .string ⟨#[]⟩] 126)) := (Below.refl _ _).alloc (Nat.le_refl _) _
  have HC1 := mkH (Bx.new V0 #[Value.int .i64 0, .slice none 0 0, .slice none 0 0, .string ⟨#[]⟩] 126)
  have HR1 := mkH (HR0.out.bel hal)
  go_simp
  refine hK.out _ _ ?_ (fun hHeld => ?_)
  · exact ⟨hHeld.1.trans (hal.mono hHeld.1.size), hHeld.2.bel hal⟩
  clear hK K
  try simp only [Act.put, List.setIfInBounds_toArray, List.set_cons_zero, List.set_cons_succ]
  have hsz1 : V0.heap.size < (V0.alloc (.cells #[Value.int .i64 0, .slice none 0 0, .slice none 0 0, .string ⟨#[]⟩] 126)).heap.size := by simp
  generalize hV1 : V0.alloc (.cells #[Value.int .i64 0, .slice none 0 0, .slice none 0 0, .string ⟨#[]⟩] 126) = V1 at *
  clear hV1 hal
  refine wpAnyH_ready (rs := [10]) (by kernel_rfl) (by simp) ?_
  refine (AllReadyH.cons (o := { dst := none, op := _, type := _, pos := _, after := _, guard := _ }) rfl (fun K hK => ?_) AllReadyH.nil)
  refine step_st (by rfl) 126 (.tmp 7) (.tmp 16) (by rfl) V0.heap.size #[Value.int .i64 0, .slice none 0 0, .slice none 0 0, .string ⟨#[]⟩] #[Value.int .i64 0, .slice none 0 0, .slice none 0 0, .string ⟨#[]⟩] 126 (by rfl) (by rfl) HC1.out hig (by rfl) (by simp [Value.oneCell']) ?_
  refine hK.out _ _ ?_ (fun hHeld => ?_)
  · exact ⟨below_setRow hHeld.1 hw0 _, hHeld.2.rowOther (g := V0.heap.size) (by omega) _⟩
  clear hK K
  try simp only [Act.put, List.setIfInBounds_toArray, List.set_cons_zero, List.set_cons_succ]
  refine wpAnyH_take (i := 11) (oi := { dst := some 8, op := _, type := _, pos := _, after := _, guard := _ }) (v := ?_) rfl (by kernel_rfl) (by kernel_rfl) (by kernel_rfl) (fun _ _ _ h => h) (Or.inl ⟨by rfl, ?_⟩) (by assumption) ?_
  rotate_left
  · (intro W hSw; (try dsimp only at hSw); go_simp; try (with_reducible rfl))
  try simp only [Act.put, List.setIfInBounds_toArray, List.set_cons_zero, List.set_cons_succ]
  refine wpAnyH_done (by kernel_rfl) ?_ _
  have HR2 := mkH (HR1.out.rowOther (g := V0.heap.size) (by have := HR0.out.lt; omega) #[Value.int .i64 0, .slice none 0 0, .slice none 0 0, .string ⟨#[]⟩])
  have HB2 := mkH hHeld.1
  clear hHeld HR0 HR1 HC1
  generalize V1.setRow V0.heap.size #[Value.int .i64 0, .slice none 0 0, .slice none 0 0, .string ⟨#[]⟩] = V2 at *
  go_wp2_with (first
    | (go_at_call 327; refine (Fresh_any V2).mono ?_; rintro e1 w3 ⟨rfl, hb3⟩; have HR3 := mkH (HR2.out.bel hb3); have HB3 := mkH (HB2.out.trans (hb3.mono HB2.out.size)); clear hb3)
    | (refine wpList_st rfl (ty := 126) (x := .tmp 6) (y := .tmp 20) (b := R) (cs := gC ⟨1, [], [], ⟨#[]⟩⟩ none 0 none 0) (old := #[Value.int .i64 0, .slice none 0 0, .slice none 0 0, .string ⟨#[]⟩]) (t := 126) rfl rfl rfl HR3.out hig rfl (gC_one _ _ _ _ _) ?_))
  have hR4 := HR3.out.row (cs := gC ⟨1, [], [], ⟨#[]⟩⟩ none 0 none 0)
  have hB4 := below_setRow HB3.out hwR (gC ⟨1, [], [], ⟨#[]⟩⟩ none 0 none 0)
  refine bodyPost_ret (res_c rfl _ _ _ rfl (loadG hR4)) rfl ⟨none, 0, none, 0, xs, ?_, ?_, HE.out.2.symm, HX.out.below hB4, Fr.ofBelow hB4⟩
  · rw [HE.out.1]; rfl
  · rw [HE.out.1]; exact ⟨RowS.nil _ _, RowS.nil _ _, Nat.le_refl _, Nat.le_refl _, by omega, by omega⟩

set_option maxHeartbeats 8000000 in
theorem look_some {w : World} {Xb Mb : Nat} {cf : List Cf} {sv : List Rg} {xs : List X} {qa : Option Addr} {qc : Nat} {sa : Option Addr} {sc : Nat} (h : Ex w Xb Mb cf sv xs qa qc sa sc) {q : Int} {s : ByteArray} (hk : wfK q s) (now : Int) (hn : Sm now) (hl : xs.length ≤ 1000000000) (x : X) (ha : atX X.p xs q s = some x) :
    Calls Tryz.prog 268 #[.pointer (some ⟨Xb, 0, none⟩), .agg #[Value.int .i64 q, .string s], .int .i64 now] w fun e w' => LkP w Xb Mb cf sv xs qa qc sa sc q s now e w' := by
  have hmx : Tryz.prog.follows .mixedOrders = true := by kernel_rfl
  have hig : (Tryz.prog.info? 126).map (·.size) = some 4 := by kernel_rfl
  have HX := mkH h
  have HK := mkH hk
  have HS0 := mkH (And.intro (((Below.refl w.heap.size w).alloc (Nat.le_refl _) (.cells #[Value.int .i64 q, .string s] 192)).alloc (by simp) (.cells #[Value.int .i64 0, .slice none 0 0, .slice none 0 0, .string ⟨#[]⟩] 126)) ((Bx.new w #[Value.int .i64 q, .string s] 192).alloc (.cells #[Value.int .i64 0, .slice none 0 0, .slice none 0 0, .string ⟨#[]⟩] 126)))
  have HR := mkH (Bx.new1 w (.cells #[Value.int .i64 q, .string s] 192) #[Value.int .i64 0, .slice none 0 0, .slice none 0 0, .string ⟨#[]⟩] 126)
  obtain ⟨hxm, hxq, hxs⟩ := atX_mem ha
  obtain ⟨⟨hgl, -, -⟩, hok, hq0, hqn⟩ := h.g x hxm
  obtain ⟨⟨xq, xs', ⟨nx, kp, mk, at'⟩⟩, ka, kc, ma, mc⟩ := x
  simp only at hxq hxs hgl hok hq0 hqn
  subst hxq hxs
  obtain ⟨i, hi⟩ : ∃ i : Nat, xq = (i : Int) := ⟨xq.toNat, by omega⟩
  subst hi
  have hin : i < cf.length := by omega
  obtain ⟨c, hc⟩ := Gr.some_of hin
  have HKO : Hid (keepOf cf (i : Int) = c.keep) := mkH (by unfold keepOf; simp [hc])
  obtain ⟨qb, qo, hqa, hqcell⟩ := h.cq h.n0
  subst hqa
  have HKC : Hid (∀ W, Below w.heap.size w W → W.cell? ⟨qb, qo + i * 4 + 1, none⟩ = some (.int .i64 c.keep)) := mkH (fun W hW => by
    have h1 := hqcell i c hc 1 _ rfl
    exact (hW.cell (p := ⟨qb, qo + i * 4 + 1, none⟩) (World.block_lt_of_cell? w _ h1)).trans h1)
  obtain ⟨kp', hkp'⟩ : ∃ k, c.keep = k := ⟨_, rfl⟩
  rw [hkp'] at HKC HKO
  have HGL := mkH hgl
  have HOK := mkH hok.1
  have HOKK := mkH hok
  have hkl : kp.length ≤ 1000000000 := by have := hok.2.1; simp only at this; omega
  have hml : mk.length ≤ 1000000000 := by have := hok.2.2; simp only at this; omega
  have HLK : Hid (∀ W, Below w.heap.size w W → (Instr.lookup 159 (.map (some Mb)) (.agg #[Value.int .i64 (i : Int), .string xs']) true).run Tryz.prog W = .ok (.tuple #[.agg #[Value.int .i64 nx, .slice ka kp.length kc, .slice ma mk.length mc, .string at'], .bool true]) W) := mkH (fun W hW => by
    have := look2 (HX.out.below hW).m HK.out
    rw [ha] at this
    exact this)
  have HE : Hid (lookG cf (xs.map X.p) (i : Int) xs' now = expire ⟨nx, kp, mk, at'⟩ now kp' ∧ lookL cf (xs.map X.p) (i : Int) xs' now = put id (xs.map X.p) ⟨(i : Int), xs', expire ⟨nx, kp, mk, at'⟩ now kp'⟩) := mkH (by unfold lookG lookL; rw [at_p, ha, HKO.out]; exact ⟨rfl, rfl⟩)
  have HQN := mkH (And.intro hq0 hqn)
  have HL := mkH hl
  have hiI : (0 : Int) ≤ (i : Int) := by omega
  have hinI : (i : Int) < (cf.length : Int) := by omega
  clear h hk ha hxm hgl hok hq0 hqn hc hqcell hkp' HKO
  go_enter Tryz.func268, Tryz.ntmps268
  go_wp2_with fail
  generalize (w.alloc (.cells #[Value.int .i64 (i : Int), .string xs'] 192)).alloc (.cells #[Value.int .i64 0, .slice none 0 0, .slice none 0 0, .string ⟨#[]⟩] 126) = w0 at *
  obtain ⟨R, hR⟩ : ∃ R, w.heap.size + 1 = R := ⟨_, rfl⟩
  rw [hR] at HR ⊢
  have hwR : w.heap.size < R := by omega
  clear hR
  refine wp_region_held_drew (S := fun W => Below w.heap.size w W ∧ Bx W w.heap.size #[Value.int .i64 (i : Int), .string xs'] 192) hmx ⟨HS0.out.1.trans ((below_drew w0).mono HS0.out.1.size), HS0.out.2.bel (below_drew w0)⟩ (fun hHeld => ?_)
  have HR0 := mkH (HR.out.bel (below_drew w0))
  have hw0 : w.heap.size ≤ w0.drew.heap.size := hHeld.1.size
  have hw1 : w.heap.size < w0.drew.heap.size := hHeld.2.lt
  clear HR
  generalize w0.drew = V0 at *
  refine wpAnyH_take (i := 0) (oi := { dst := some 10, op := _, type := _, pos := _, after := _, guard := _ }) (v := ?_) rfl (by kernel_rfl) (by kernel_rfl) (by kernel_rfl) (fun _ _ _ h => h) (Or.inl ⟨by rfl, ?_⟩) (by assumption) ?_
  rotate_left
  · (intro W hSw; (try dsimp only at hSw); go_simp; try (with_reducible rfl))
  try simp only [Act.put, List.setIfInBounds_toArray, List.set_cons_zero, List.set_cons_succ]
  refine wpAnyH_take (i := 1) (oi := { dst := some 11, op := _, type := _, pos := _, after := _, guard := _ }) (v := ?_) rfl (by kernel_rfl) (by kernel_rfl) (by kernel_rfl) (fun _ _ _ h => h) (Or.inl ⟨by rfl, ?_⟩) (by assumption) ?_
  rotate_left
  · (intro W hSw; (try dsimp only at hSw); go_simp; try (with_reducible rfl))
  try simp only [Act.put, List.setIfInBounds_toArray, List.set_cons_zero, List.set_cons_succ]
  refine wpAnyH_take (i := 2) (oi := { dst := some 12, op := _, type := _, pos := _, after := _, guard := _ }) (v := ?_) rfl (by kernel_rfl) (by kernel_rfl) (by kernel_rfl) (fun _ _ _ h => h) (Or.inl ⟨by rfl, ?_⟩) (by assumption) ?_
  rotate_left
  · (intro W hSw; (try dsimp only at hSw); go_simp; try (with_reducible rfl))
  try simp only [Act.put, List.setIfInBounds_toArray, List.set_cons_zero, List.set_cons_succ]
  refine wpAnyH_take (i := 3) (oi := { dst := some 13, op := _, type := _, pos := _, after := _, guard := _ }) (v := ?_) rfl (by kernel_rfl) (by kernel_rfl) (by kernel_rfl) (fun _ _ _ h => h) (Or.inl ⟨by rfl, ?_⟩) (by assumption) ?_
  rotate_left
  · (intro W hSw; (try dsimp only at hSw); have c2 := (HX.out.below hSw.1).bx.cell 2 _ rfl; go_simp; try (with_reducible rfl))
  try simp only [Act.put, List.setIfInBounds_toArray, List.set_cons_zero, List.set_cons_succ]
  refine wpAnyH_take (i := 4) (oi := { dst := some 14, op := _, type := _, pos := _, after := _, guard := _ }) (v := ?_) rfl (by kernel_rfl) (by kernel_rfl) (by kernel_rfl) (fun _ _ _ h => h) (Or.inl ⟨by rfl, ?_⟩) (by assumption) ?_
  rotate_left
  · (intro W hSw; (try dsimp only at hSw); have c0 := hSw.2.cell 0 _ rfl; have c1 := hSw.2.cell 1 _ rfl; go_simp; try (with_reducible rfl))
  try simp only [Act.put, List.setIfInBounds_toArray, List.set_cons_zero, List.set_cons_succ]
  refine wpAnyH_take (i := 5) (oi := { dst := some 15, op := _, type := _, pos := _, after := _, guard := _ }) (v := ?_) rfl (by kernel_rfl) (by kernel_rfl) (by kernel_rfl) (fun _ _ _ h => h) (Or.inl ⟨by rfl, ?_⟩) (by assumption) ?_
  rotate_left
  · (intro W hSw; (try dsimp only at hSw); have hl := HLK.out W hSw.1; go_simp; try (with_reducible rfl))
  try simp only [Act.put, List.setIfInBounds_toArray, List.set_cons_zero, List.set_cons_succ]
  refine wpAnyH_take (i := 6) (oi := { dst := some 9, op := _, type := _, pos := _, after := _, guard := _ }) (v := ?_) rfl (by kernel_rfl) (by kernel_rfl) (by kernel_rfl) (fun _ _ _ h => h) (Or.inl ⟨by rfl, ?_⟩) (by assumption) ?_
  rotate_left
  · (intro W hSw; (try dsimp only at hSw); go_simp; try (with_reducible rfl))
  try simp only [Act.put, List.setIfInBounds_toArray, List.set_cons_zero, List.set_cons_succ]
  refine wpAnyH_take (i := 7) (oi := { dst := some 16, op := _, type := _, pos := _, after := _, guard := _ }) (v := ?_) rfl (by kernel_rfl) (by kernel_rfl) (by kernel_rfl) (fun _ _ _ h => h) (Or.inl ⟨by rfl, ?_⟩) (by assumption) ?_
  rotate_left
  · (intro W hSw; (try dsimp only at hSw); go_simp; try (with_reducible rfl))
  try simp only [Act.put, List.setIfInBounds_toArray, List.set_cons_zero, List.set_cons_succ]
  refine wpAnyH_take (i := 8) (oi := { dst := some 17, op := _, type := _, pos := _, after := _, guard := _ }) (v := ?_) rfl (by kernel_rfl) (by kernel_rfl) (by kernel_rfl) (fun _ _ _ h => h) (Or.inl ⟨by rfl, ?_⟩) (by assumption) ?_
  rotate_left
  · (intro W hSw; (try dsimp only at hSw); go_simp; try (with_reducible rfl))
  try simp only [Act.put, List.setIfInBounds_toArray, List.set_cons_zero, List.set_cons_succ]
  refine wpAnyH_ready (rs := [9]) (by kernel_rfl) (by simp) ?_
  refine (AllReadyH.cons (o := { dst := some 7, op := _, type := _, pos := _, after := _, guard := _ }) rfl (fun K hK => ?_) AllReadyH.nil)
  have hal : Below V0.heap.size V0 (V0.alloc (.cells #[Value.int .i64 0, .slice none 0 0, .slice none 0 0, .string ⟨#[]⟩] 126)) := (Below.refl _ _).alloc (Nat.le_refl _) _
  have HC1 := mkH (Bx.new V0 #[Value.int .i64 0, .slice none 0 0, .slice none 0 0, .string ⟨#[]⟩] 126)
  have HR1 := mkH (HR0.out.bel hal)
  go_simp
  refine hK.out _ _ ?_ (fun hHeld => ?_)
  · exact ⟨hHeld.1.trans (hal.mono hHeld.1.size), hHeld.2.bel hal⟩
  clear hK K
  try simp only [Act.put, List.setIfInBounds_toArray, List.set_cons_zero, List.set_cons_succ]
  have hsz1 : V0.heap.size < (V0.alloc (.cells #[Value.int .i64 0, .slice none 0 0, .slice none 0 0, .string ⟨#[]⟩] 126)).heap.size := by simp
  generalize hV1 : V0.alloc (.cells #[Value.int .i64 0, .slice none 0 0, .slice none 0 0, .string ⟨#[]⟩] 126) = V1 at *
  clear hV1 hal
  refine wpAnyH_ready (rs := [10]) (by kernel_rfl) (by simp) ?_
  refine (AllReadyH.cons (o := { dst := none, op := _, type := _, pos := _, after := _, guard := _ }) rfl (fun K hK => ?_) AllReadyH.nil)
  refine step_st (by rfl) 126 (.tmp 7) (.tmp 16) (by rfl) V0.heap.size #[Value.int .i64 nx, .slice ka kp.length kc, .slice ma mk.length mc, .string at'] #[Value.int .i64 0, .slice none 0 0, .slice none 0 0, .string ⟨#[]⟩] 126 (by rfl) (by rfl) HC1.out hig (by rfl) (by simp [Value.oneCell']) ?_
  refine hK.out _ _ ?_ (fun hHeld => ?_)
  · exact ⟨below_setRow hHeld.1 hw0 _, hHeld.2.rowOther (g := V0.heap.size) (by omega) _⟩
  clear hK K
  try simp only [Act.put, List.setIfInBounds_toArray, List.set_cons_zero, List.set_cons_succ]
  refine wpAnyH_take (i := 11) (oi := { dst := some 8, op := _, type := _, pos := _, after := _, guard := _ }) (v := ?_) rfl (by kernel_rfl) (by kernel_rfl) (by kernel_rfl) (fun _ _ _ h => h) (Or.inl ⟨by rfl, ?_⟩) (by assumption) ?_
  rotate_left
  · (intro W hSw; (try dsimp only at hSw); go_simp; try (with_reducible rfl))
  try simp only [Act.put, List.setIfInBounds_toArray, List.set_cons_zero, List.set_cons_succ]
  refine wpAnyH_done (by kernel_rfl) ?_ _
  have HR2 := mkH (HR1.out.rowOther (g := V0.heap.size) (by have := HR0.out.lt; omega) #[Value.int .i64 nx, .slice ka kp.length kc, .slice ma mk.length mc, .string at'])
  have HC2 : Hid (Bx (V1.setRow V0.heap.size #[Value.int .i64 nx, .slice ka kp.length kc, .slice ma mk.length mc, .string at']) V0.heap.size #[Value.int .i64 nx, .slice ka kp.length kc, .slice ma mk.length mc, .string at'] 126) := mkH HC1.out.row
  have hRC : R < V0.heap.size := HR0.out.lt
  obtain ⟨C, hC⟩ : ∃ C, V0.heap.size = C := ⟨_, rfl⟩
  rw [hC] at HR2 HC2 hHeld hRC hw0 ⊢
  have hwC : w.heap.size ≤ C := hw0
  have HV := mkH (And.intro hHeld.1 (And.intro hHeld.2 (And.intro HC2.out HR2.out)))
  clear hHeld HR0 HR1 HC1 HR2 HC2 hC hw0 hsz1 HS0
  generalize V1.setRow C #[Value.int .i64 nx, .slice ka kp.length kc, .slice ma mk.length mc, .string at'] = V3 at *
  go_upto_region 4 with fail
  refine Rg.region_G hmx 12 (fun W => Below w.heap.size w W ∧ Bx W w.heap.size #[Value.int .i64 (i : Int), .string xs'] 192 ∧ Bx W C #[Value.int .i64 nx, .slice ka kp.length kc, .slice ma mk.length mc, .string at'] 126 ∧ Bx W R #[Value.int .i64 0, .slice none 0 0, .slice none 0 0, .string ⟨#[]⟩] 126) ⟨HV.out.1.trans ((below_drew V3).mono HV.out.1.size), HV.out.2.1.bel (below_drew V3), HV.out.2.2.1.bel (below_drew V3), HV.out.2.2.2.bel (below_drew V3)⟩ (fun hHeld => ?_)
  clear HV
  have hw4 : w.heap.size ≤ V3.drew.heap.size := hHeld.1.size
  generalize V3.drew = V4 at *
  refine Rg.anyG_take (i := 0) (oi := { dst := some 21, op := _, type := _, pos := _, after := _, guard := _ }) (v := ?_) rfl (by kernel_rfl) (by kernel_rfl) (by kernel_rfl) [12] (by kernel_rfl) (fun _ _ _ h => h) (Or.inl ⟨by rfl, ?_⟩) (by assumption) ?_
  rotate_left
  · (intro W hSw; (try dsimp only at hSw); obtain ⟨s0, s1, s2, s3, -⟩ := hSw.2.2.1.four; go_simp; try (with_reducible rfl))
  try simp only [Act.put, List.setIfInBounds_toArray, List.set_cons_zero, List.set_cons_succ]
  refine Rg.anyG_pure (i := 1) (oi := { dst := some 22, op := _, type := _, pos := _, after := _, guard := _ }) (v := ?_) rfl (by kernel_rfl) (by kernel_rfl) (by kernel_rfl) (by rfl) (fun _ _ _ h => h) (Or.inl ⟨by rfl, ?_⟩) (fun _ => by assumption) ?_
  rotate_left
  · (intro W hSw; (try dsimp only at hSw); go_simp; try (with_reducible rfl))
  try simp only [Act.put, List.setIfInBounds_toArray, List.set_cons_zero, List.set_cons_succ]
  refine Rg.anyG_pure (i := 2) (oi := { dst := some 23, op := _, type := _, pos := _, after := _, guard := _ }) (v := ?_) rfl (by kernel_rfl) (by kernel_rfl) (by kernel_rfl) (by rfl) (fun _ _ _ h => h) (Or.inl ⟨by rfl, ?_⟩) (fun _ => by assumption) ?_
  rotate_left
  · (intro W hSw; (try dsimp only at hSw); go_simp; try (with_reducible rfl))
  try simp only [Act.put, List.setIfInBounds_toArray, List.set_cons_zero, List.set_cons_succ]
  refine Rg.anyG_pure (i := 3) (oi := { dst := some 24, op := _, type := _, pos := _, after := _, guard := _ }) (v := ?_) rfl (by kernel_rfl) (by kernel_rfl) (by kernel_rfl) (by rfl) (fun _ _ _ h => h) (Or.inl ⟨by rfl, ?_⟩) (fun _ => by assumption) ?_
  rotate_left
  · (intro W hSw; (try dsimp only at hSw); go_simp; try (with_reducible rfl))
  try simp only [Act.put, List.setIfInBounds_toArray, List.set_cons_zero, List.set_cons_succ]
  refine Rg.anyG_pure (i := 4) (oi := { dst := some 25, op := _, type := _, pos := _, after := _, guard := _ }) (v := ?_) rfl (by kernel_rfl) (by kernel_rfl) (by kernel_rfl) (by rfl) (fun _ _ _ h => h) (Or.inl ⟨by rfl, ?_⟩) (fun _ => by assumption) ?_
  rotate_left
  · (intro W hSw; (try dsimp only at hSw); go_simp; try (with_reducible rfl))
  try simp only [Act.put, List.setIfInBounds_toArray, List.set_cons_zero, List.set_cons_succ]
  refine Rg.anyG_take (i := 5) (oi := { dst := some 26, op := _, type := _, pos := _, after := _, guard := _ }) (v := ?_) rfl (by kernel_rfl) (by kernel_rfl) (by kernel_rfl) [12] (by kernel_rfl) (fun _ _ _ h => h) (Or.inl ⟨by rfl, ?_⟩) (by assumption) ?_
  rotate_left
  · (intro W hSw; (try dsimp only at hSw); have c0 := (HX.out.below hSw.1).bx.cell 0 _ rfl; go_simp; try (with_reducible rfl))
  try simp only [Act.put, List.setIfInBounds_toArray, List.set_cons_zero, List.set_cons_succ]
  refine Rg.anyG_pure (i := 6) (oi := { dst := some 27, op := _, type := _, pos := _, after := _, guard := _ }) (v := ?_) rfl (by kernel_rfl) (by kernel_rfl) (by kernel_rfl) (by rfl) (fun _ _ _ h => h) (Or.inl ⟨by rfl, ?_⟩) (fun _ => by assumption) ?_
  rotate_left
  · (intro W hSw; (try dsimp only at hSw); go_simp; try (with_reducible rfl))
  try simp only [Act.put, List.setIfInBounds_toArray, List.set_cons_zero, List.set_cons_succ]
  refine Rg.anyG_take (i := 7) (oi := { dst := some 28, op := _, type := _, pos := _, after := _, guard := _ }) (v := ?_) rfl (by kernel_rfl) (by kernel_rfl) (by kernel_rfl) [12] (by kernel_rfl) (fun _ _ _ h => h) (Or.inl ⟨by rfl, ?_⟩) (by assumption) ?_
  rotate_left
  · (intro W hSw; (try dsimp only at hSw); have c0 := hSw.2.1.cell 0 _ rfl; go_simp; try (with_reducible rfl))
  try simp only [Act.put, List.setIfInBounds_toArray, List.set_cons_zero, List.set_cons_succ]
  refine Rg.anyG_pure (i := 8) (oi := { dst := some 29, op := _, type := _, pos := _, after := _, guard := _ }) (v := .pointer (some ⟨qb, qo + i * 4, none⟩)) rfl (by kernel_rfl) (by kernel_rfl) (by kernel_rfl) (by rfl) (fun _ _ _ h => h) (Or.inl ⟨by rfl, ?_⟩) (fun _ => by assumption) ?_
  · (intro W hSw; (try dsimp only at hSw); go_simp; try (with_reducible rfl))
  try simp only [Act.put, List.setIfInBounds_toArray, List.set_cons_zero, List.set_cons_succ]
  refine Rg.anyG_pure (i := 9) (oi := { dst := some 30, op := _, type := _, pos := _, after := _, guard := _ }) (v := ?_) rfl (by kernel_rfl) (by kernel_rfl) (by kernel_rfl) (by rfl) (fun _ _ _ h => h) (Or.inl ⟨by rfl, ?_⟩) (fun _ => by assumption) ?_
  rotate_left
  · (intro W hSw; (try dsimp only at hSw); go_simp; try (with_reducible rfl))
  try simp only [Act.put, List.setIfInBounds_toArray, List.set_cons_zero, List.set_cons_succ]
  refine Rg.anyG_take (i := 10) (oi := { dst := some 31, op := _, type := _, pos := _, after := _, guard := _ }) (v := ?_) rfl (by kernel_rfl) (by kernel_rfl) (by kernel_rfl) [12] (by kernel_rfl) (fun _ _ _ h => h) (Or.inl ⟨by rfl, ?_⟩) (by assumption) ?_
  rotate_left
  · (intro W hSw; (try dsimp only at hSw); have c1 := HKC.out W hSw.1; go_simp; try (with_reducible rfl))
  try simp only [Act.put, List.setIfInBounds_toArray, List.set_cons_zero, List.set_cons_succ]
  refine Rg.anyG_ready (rs := [11]) (by kernel_rfl) (by simp) ?_
  refine (Rg.AllG.cons (o := { dst := some 32, op := _, type := _, pos := _, after := _, guard := _ }) rfl (fun K hK => ?_) Rg.AllG.nil)
  go_simp
  refine (Expire_any V4 ⟨nx, kp, mk, at'⟩ ka kc ma mc (HGL.out.below hHeld.1) hkl hml HOK.out now kp' hn).mono ?_
  rintro e1 V5 ⟨ka2, kc2, ma2, mc2, rfl, hG5, hb5⟩
  have HG5 := mkH hG5
  have HB5 := mkH hb5
  clear hG5 hb5
  go_wp2_with fail
  refine hK.out _ _ ?_ (fun hHeld => ?_)
  · exact ⟨hHeld.1.trans (HB5.out.mono hHeld.1.size), hHeld.2.1.bel HB5.out, hHeld.2.2.1.bel HB5.out, hHeld.2.2.2.bel HB5.out⟩
  clear hK K
  try simp only [Act.put, List.setIfInBounds_toArray, List.set_cons_zero, List.set_cons_succ]
  refine Rg.anyG_ready (rs := [12]) (by kernel_rfl) (by simp) ?_
  refine Rg.AllG.last (o := { dst := none, op := _, type := _, pos := _, after := _, guard := _ }) rfl (by kernel_rfl) (fun K hK => ?_)
  refine step_st (by rfl) 126 (.tmp 7) (.tmp 32) (by rfl) C (gC (expire ⟨nx, kp, mk, at'⟩ now kp') ka2 kc2 ma2 mc2) #[Value.int .i64 nx, .slice ka kp.length kc, .slice ma mk.length mc, .string at'] 126 (by rfl) (by rfl) hHeld.2.2.1 hig (by rfl) (gC_one _ _ _ _ _) ?_
  refine hK.out _ _ ?_
  clear hK K
  try simp only [Act.put, List.setIfInBounds_toArray, List.set_cons_zero, List.set_cons_succ]
  refine Rg.anyG_done (by kernel_rfl) ?_ _
  have hbC : Below w.heap.size w (V5.setRow C (gC (expire ⟨nx, kp, mk, at'⟩ now kp') ka2 kc2 ma2 mc2)) := below_setRow hHeld.1 hwC _
  have HV6 := mkH (And.intro hbC (And.intro (hHeld.2.1.rowOther (g := C) (by omega) (gC (expire ⟨nx, kp, mk, at'⟩ now kp') ka2 kc2 ma2 mc2)) (And.intro (hHeld.2.2.1.row (cs := gC (expire ⟨nx, kp, mk, at'⟩ now kp') ka2 kc2 ma2 mc2)) (hHeld.2.2.2.rowOther (g := C) (by omega) (gC (expire ⟨nx, kp, mk, at'⟩ now kp') ka2 kc2 ma2 mc2)))))
  have hfC : Fr (fun k => k = C) V5 (V5.setRow C (gC (expire ⟨nx, kp, mk, at'⟩ now kp') ka2 kc2 ma2 mc2)) := Bx.frrow _
  have HGL6 : Hid (Go' w.heap.size (V5.setRow C (gC (expire ⟨nx, kp, mk, at'⟩ now kp') ka2 kc2 ma2 mc2)) (expire ⟨nx, kp, mk, at'⟩ now kp') ka2 kc2 ma2 mc2) := mkH (own_gbx (HG5.out.mono hw4) hfC hHeld.2.2.1 (by decide) (by decide))
  clear hHeld hbC hfC HG5 HB5
  generalize V5.setRow C (gC (expire ⟨nx, kp, mk, at'⟩ now kp') ka2 kc2 ma2 mc2) = V6 at *
  obtain ⟨g2, hg2⟩ : ∃ g, expire ⟨nx, kp, mk, at'⟩ now kp' = g := ⟨_, rfl⟩
  have HOK2 : Hid (Ok g2) := mkH (hg2 ▸ ok_exp HOKK.out now kp')
  rw [hg2] at HV6 HGL6 HE
  obtain ⟨W7, hrun, hM7, hF7⟩ := store1 ((HX.out.below (HV6.out.1.trans ((below_drew V6).mono HV6.out.1.size))).m) HL.out ⟨⟨(i : Int), xs', g2⟩, ka2, kc2, ma2, mc2⟩ HK.out
  go_upto_region 5 with fail
  refine Rg.region_G hmx 6 (fun W => W = V6.drew) rfl (fun hHeld => ?_)
  refine Rg.anyG_pure (i := 0) (oi := { dst := some 33, op := _, type := _, pos := _, after := _, guard := _ }) (v := ?_) rfl (by kernel_rfl) (by kernel_rfl) (by kernel_rfl) (by rfl) (fun _ _ _ h => h) (Or.inl ⟨by rfl, ?_⟩) (fun _ => by assumption) ?_
  rotate_left
  · (intro W hSw; (try dsimp only at hSw); go_simp; try (with_reducible rfl))
  try simp only [Act.put, List.setIfInBounds_toArray, List.set_cons_zero, List.set_cons_succ]
  refine Rg.anyG_pure (i := 1) (oi := { dst := some 34, op := _, type := _, pos := _, after := _, guard := _ }) (v := ?_) rfl (by kernel_rfl) (by kernel_rfl) (by kernel_rfl) (by rfl) (fun _ _ _ h => h) (Or.inl ⟨by rfl, ?_⟩) (fun _ => by assumption) ?_
  rotate_left
  · (intro W hSw; (try dsimp only at hSw); go_simp; try (with_reducible rfl))
  try simp only [Act.put, List.setIfInBounds_toArray, List.set_cons_zero, List.set_cons_succ]
  refine Rg.anyG_pure (i := 2) (oi := { dst := some 35, op := _, type := _, pos := _, after := _, guard := _ }) (v := ?_) rfl (by kernel_rfl) (by kernel_rfl) (by kernel_rfl) (by rfl) (fun _ _ _ h => h) (Or.inl ⟨by rfl, ?_⟩) (fun _ => by assumption) ?_
  rotate_left
  · (intro W hSw; (try dsimp only at hSw); go_simp; try (with_reducible rfl))
  try simp only [Act.put, List.setIfInBounds_toArray, List.set_cons_zero, List.set_cons_succ]
  refine Rg.anyG_take (i := 3) (oi := { dst := some 36, op := _, type := _, pos := _, after := _, guard := _ }) (v := ?_) rfl (by kernel_rfl) (by kernel_rfl) (by kernel_rfl) [6] (by kernel_rfl) (fun _ _ _ h => h) (Or.inl ⟨by rfl, ?_⟩) (by assumption) ?_
  rotate_left
  · (intro W hSw; (try dsimp only at hSw); subst hSw; have hb6 := HV6.out.1.trans ((below_drew V6).mono HV6.out.1.size); have c2 := (HX.out.below hb6).bx.cell 2 _ rfl; go_simp; try (with_reducible rfl))
  try simp only [Act.put, List.setIfInBounds_toArray, List.set_cons_zero, List.set_cons_succ]
  refine Rg.anyG_take (i := 4) (oi := { dst := some 37, op := _, type := _, pos := _, after := _, guard := _ }) (v := ?_) rfl (by kernel_rfl) (by kernel_rfl) (by kernel_rfl) [6] (by kernel_rfl) (fun _ _ _ h => h) (Or.inl ⟨by rfl, ?_⟩) (by assumption) ?_
  rotate_left
  · (intro W hSw; (try dsimp only at hSw); subst hSw; have hb6 := HV6.out.1.trans ((below_drew V6).mono HV6.out.1.size); have b6 := HV6.out.2.1.bel (below_drew V6); have c0 := b6.cell 0 _ rfl; have c1 := b6.cell 1 _ rfl; go_simp; try (with_reducible rfl))
  try simp only [Act.put, List.setIfInBounds_toArray, List.set_cons_zero, List.set_cons_succ]
  refine Rg.anyG_take (i := 5) (oi := { dst := some 38, op := _, type := _, pos := _, after := _, guard := _ }) (v := .agg (gC g2 ka2 kc2 ma2 mc2)) rfl (by kernel_rfl) (by kernel_rfl) (by kernel_rfl) [6] (by kernel_rfl) (fun _ _ _ h => h) (Or.inl ⟨by rfl, ?_⟩) (by assumption) ?_
  · (intro W hSw; (try dsimp only at hSw); subst hSw; have hb6 := HV6.out.1.trans ((below_drew V6).mono HV6.out.1.size); exact run_ld (by rfl) (by rfl) (loadG (HV6.out.2.2.1.bel (below_drew V6))))
  try simp only [Act.put, List.setIfInBounds_toArray, List.set_cons_zero, List.set_cons_succ]
  refine Rg.anyG_ready (rs := [6]) (by kernel_rfl) (by simp) ?_
  refine Rg.AllG.last (o := { dst := none, op := _, type := _, pos := _, after := _, guard := _ }) rfl (by kernel_rfl) (fun K hK => ?_)
  refine step_mapup (by rfl) 159 (.tmp 36) (.tmp 37) (.tmp 38) (by rfl) (.map (some Mb)) (kv (i : Int) xs') (.agg (gC g2 ka2 kc2 ma2 mc2)) (by rfl) (by rfl) (by rfl) (W' := W7) hrun ?_
  refine hK.out _ _ ?_
  clear hK K
  try simp only [Act.put, List.setIfInBounds_toArray, List.set_cons_zero, List.set_cons_succ]
  refine Rg.anyG_done (by kernel_rfl) ?_ _
  have hb6 : Below w.heap.size w V6.drew := HV6.out.1.trans ((below_drew V6).mono HV6.out.1.size)
  have hX6 := HX.out.below hb6
  have hbare := hX6.m.bare
  have hC6 := HV6.out.2.2.1.bel (below_drew V6)
  have hR6 := HV6.out.2.2.2.bel (below_drew V6)
  have HC7 := mkH (hC6.fr hF7 (hbare ⟨C, 0, none⟩ _ (hC6.cell 0 _ rfl)))
  have HR7 := mkH (hR6.fr hF7 (hbare ⟨R, 0, none⟩ _ (hR6.cell 0 _ rfl)))
  have HGL7 := mkH (own_gmap (HGL6.out.below (below_drew V6)) hF7 hX6.m)
  have HF7 : Hid (Fr (fun k => k = Mb) w W7) := mkH ((Fr.ofBelow hb6).trans hF7 (fun k hk => .inl hk))
  have HM7 := mkH hM7
  clear hrun hM7 hF7 hb6 hX6 hbare hC6 hR6 HV6 HGL6
  go_wp2_with (first
    | (refine wpList_ld (ty := 126) (x := .tmp 7) (p := ⟨C, 0, none⟩) (v := .agg (gC g2 ka2 kc2 ma2 mc2)) rfl rfl rfl (loadG HC7.out) ?_)
    | (refine wpList_st rfl (ty := 126) (x := .tmp 6) (y := .tmp 39) (b := R) (cs := gC g2 ka2 kc2 ma2 mc2) (old := #[Value.int .i64 0, .slice none 0 0, .slice none 0 0, .string ⟨#[]⟩]) (t := 126) rfl rfl rfl HR7.out hig rfl (gC_one _ _ _ _ _) ?_))
  have hR8 := HR7.out.row (cs := gC g2 ka2 kc2 ma2 mc2)
  have hF8 : Fr (fun k => k = R) W7 (W7.setRow R (gC g2 ka2 kc2 ma2 mc2)) := Bx.frrow _
  have hMb : Mb ≠ R := by have := HX.out.m.lt; omega
  have hG8 := Gy.own (own_gbx HGL7.out hF8 HR7.out (by decide) (by decide))
  have hE8 := HX.out.step (HF7.out.trans hF8 (fun k hk => .inr (by omega))) (HM7.out.fr hF8 hMb) hG8 HOK2.out HQN.out
  refine bodyPost_ret (res_c rfl _ _ _ rfl (loadG hR8)) rfl ⟨ka2, kc2, ma2, mc2, _, ?_, ?_, ?_, hE8, HF7.out.trans hF8 (fun k hk => .inr (by omega))⟩
  · rw [HE.out.1]; rfl
  · rw [HE.out.1]; exact hG8.gl
  · rw [put_p, HE.out.2]

theorem look_any {w : World} {Xb Mb : Nat} {cf : List Cf} {sv : List Rg} {xs : List X} {qa : Option Addr} {qc : Nat} {sa : Option Addr} {sc : Nat} (h : Ex w Xb Mb cf sv xs qa qc sa sc) {q : Int} {s : ByteArray} (hk : wfK q s) (now : Int) (hn : Sm now) (hl : xs.length ≤ 1000000000) :
    Calls Tryz.prog 268 #[.pointer (some ⟨Xb, 0, none⟩), .agg #[Value.int .i64 q, .string s], .int .i64 now] w fun e w' => LkP w Xb Mb cf sv xs qa qc sa sc q s now e w' := by
  cases ha : atX X.p xs q s with
  | none => exact look_none h hk now hn ha
  | some x => exact look_some h hk now hn hl x ha
end Go.Proofs.YtgbbajeeelgbhaaGreatDoor.Qb
