/-
  SeRd GpF GpV, joined by mrg.py.
-/
import Derived.Test.YtenkgpfeifflnaaGreatMqA
import Derived.Test.YtenkgpfeifflnaaGreatMqC
import Derived.Test.YtenkgpfeifflnaaGreatSeW
import Derived.Lib.ConvBytes
import Derived.Test.YtenkgpfeifflnaaGreatRgG
import Derived.Deep.CutBlock
import Derived.Deep.DeepCutAuto
import Derived.Test.YtenkgpfeifflnaaGreatRows
import Derived.Test.YtenkgpfeifflnaaGreatKit2
import Derived.Deep.WholeRow
import Derived.Deep.OwnRows
import Derived.Lib.SliceRun
import Derived.Deep.RegionHeld3
import Derived.Deep.RegionLaw
import Derived.Deep.QuietTactic
import Derived.BigQuiet
import Derived.Lib.SlBytesConst

namespace Go.Proofs.YtenkgpfeifflnaaGreat.Srd
open Go.RowKit Kt Pl Wi Wk Wa Wu2 Rd Fw Sm Sa Sb Sc Sd Sx
open At (RowT)
set_option linter.unusedVariables false
set_option linter.unusedSimpArgs false
set_option maxRecDepth 20000

/-- The cells of what a text tells. -/
def nC (x : X) : List Value := [.int .i64 x.p.k, .int .i64 x.p.n, .int .i64 x.p.r.err, .int .i64 x.p.r.seq, .int .i64 x.p.r.n, .slice x.ga x.p.r.got.length x.gc, .slice x.da x.p.r.data.length x.dc, .slice x.ra x.p.r.about.length x.rc]
theorem nC_len (x : X) : (nC x).length = 8 := rfl
theorem nC_one (x : X) : ∀ u ∈ nC x, u.oneCell' = true := by
  intro u hu
  simp only [nC, List.mem_cons, List.not_mem_nil, or_false] at hu
  rcases hu with rfl | rfl | rfl | rfl | rfl | rfl | rfl | rfl <;> rfl
def zN : Array Value := #[.int .i64 0, .int .i64 0, .int .i64 0, .int .i64 0, .int .i64 0, .slice none 0 0, .slice none 0 0, .slice none 0 0]
theorem infoN : (Tryz.prog.info? 77).map (·.size) = some 8 := by kernel_rfl
theorem conv_any (w : World) (s : ByteArray) (hs : s.size ≤ 1000000000) : ∃ W' c, (convert 9 79 (.string s)).run Tryz.prog w = .ok (.slice (some ⟨w.heap.size, 0, none⟩) s.data.toList.length c) W' ∧ Row W' (some ⟨w.heap.size, 0, none⟩) s.data.toList ∧ Below w.heap.size w W' ∧ w.heap.size < W'.heap.size ∧ s.data.toList.length ≤ c ∧ c ≤ 9223372036854775807 := by
  have hsz : s.data.toList.length = s.size := by simp
  refine ⟨_, grownCap w s.size 0 5, by rw [hsz]; exact Lib.run_convert_string_bytes (P := Tryz.prog) w 9 79 5 s Tryz.underlying9 Tryz.underlying79 Tryz.underlying5, ?_, ⟨?_, ?_, ?_, ?_, fun k hk => Lib.bytesWorld_at_old w 5 s k hk⟩, ?_, ?_, ?_⟩
  · intro _
    refine ⟨_, 0, rfl, fun i hi => ?_⟩
    rw [Nat.zero_add, Lib.bytesWorld_cell w 5 s i (by omega)]
  · simp [Lib.bytesWorld, World.freeze, World.alloc, World.drew, -World.alloc_eq, -World.drew_eq]
  · simp [Lib.bytesWorld, World.freeze, World.alloc, World.drew, -World.alloc_eq, -World.drew_eq]
  · simp [Lib.bytesWorld, World.freeze, World.alloc, World.drew, -World.alloc_eq, -World.drew_eq]
  · rw [Lib.bytesWorld_size]; omega
  · rw [Lib.bytesWorld_size]; omega
  · rw [hsz]; exact grownCap_ge _ _ _ _
  · have := grownCap_le_maxLen w s.size 0 5 (by unfold maxLen; omega)
    unfold maxLen at this
    exact Nat.le_trans this (by omega)
theorem al_drop {ca : Option Addr} {cur : Bs} {cc k N : Nat} (h : ∀ a, ca = some a → 0 < cur.length → a.block ≠ N) (hc : cur.length ≤ cc) : ∀ a, (if cc = k then ca else Option.map (fun x => x.add k) ca) = some a → 0 < (cur.drop k).length → a.block ≠ N := by
  intro a e h0
  rw [List.length_drop] at h0
  rw [if_neg (by omega)] at e
  cases ca with
  | none => simp at e
  | some b =>
    simp only [Option.map_some, Option.some.injEq] at e
    subst e
    have := h b rfl (by omega)
    rw [show (b.add k).block = b.block by unfold Addr.add; split <;> rfl]
    exact this
theorem row_set {w : World} {ao : Option Addr} {bs : Bs} (h : Row w ao bs) {p : Addr} (hp : ∀ a, ao = some a → 0 < bs.length → a.block ≠ p.block) (v : Value) : Row (w.setCell p v) ao bs := fun h0 => by
  obtain ⟨b, off, e, hc⟩ := h h0
  refine ⟨b, off, e, fun i hi => ?_⟩
  rw [World.cell?_of_block (w := w) (a := ⟨b, off + i, none⟩) (heap_setCell_other w p b v (hp _ e h0))]
  exact hc i hi
theorem one_zN : zN.all (fun x => x.oneCell') = true := by unfold zN; rw [List.all_toArray]; rfl
theorem res_ct {fn : Func} {p q : Tmp} {t : TypeId} (h : fn.results = #[.cell p t, .tmp q]) (tmps : Array Value) (P : Program) (w : World) {b : Addr} {x y : Value}
    (hp : tmps.getD p undef = .pointer (some b)) (hq : tmps.getD q undef = y) (hx : (loadVar t b).run P w = .ok x w) :
    (results fn tmps).run P w = .ok (.tuple #[x, y]) w := by
  have hp' : tmps[p]?.getD undef = .pointer (some b) := by simpa using hp
  have hq' : tmps[q]?.getD undef = y := by simpa using hq
  simp only [results, h]
  simp [Sem.run_bind, Result.andThen, hp', hq', asAddr, hx]
theorem ret_ct {fn : Func} {R : Ending → World → Prop} {a : Act} {P : Program} {w : World} (p q : Tmp) (ty : TypeId) (h : fn.results = #[.cell p ty, .tmp q]) (b : Nat) (hp : a.tmps.getD p undef = .pointer (some ⟨b, 0, none⟩)) {v y : Value} (hq : a.tmps.getD q undef = y) (hl : (loadVar ty ⟨b, 0, none⟩).run P w = .ok v w) (hdf : a.defers = []) (hR : R (.returned (.tuple #[v, y])) w) : bodyPost P fn R .ret a w :=
  bodyPost_ret (v := .tuple #[v, y]) (res_ct h _ _ _ hp hq hl) hdf hR
/-- What read hands back. -/
def RdP (w : World) (bs : Bs) (e : Ending) (w' : World) : Prop := Below w.heap.size w w' ∧
  ((∃ x : X, rdE bs = some x.p ∧ e = .returned (.tuple #[.agg (nC x).toArray, .int .i64 0]) ∧ Far (fun k => w.heap.size ≤ k) x.ga x.da x.ra ∧ RpM w' x.p.r x.ga x.da x.ra ∧ Cnt x.p.r) ∨ (rdE bs = none ∧ e = .returned (.tuple #[.agg zN, .int .i64 2])))

set_option maxHeartbeats 4000000 in
theorem read_any (w : World) (bs : Bs) (hl : bs.length ≤ 500000000) :
    Calls Tryz.prog 50 #[.string (S bs)] w fun e w' => RdP w bs e w' := by
  have hmx : Tryz.prog.follows .mixedOrders = true := by kernel_rfl
  go_enter Tryz.func50, Tryz.ntmps50
  obtain ⟨W1, c1, hcv, hrow, hb1, hs1, hc1, hc2⟩ := conv_any (w.alloc (.cells zN 77)) (S bs) (by show bs.length ≤ _; omega)
  have hcv' : (convert 9 79 (.string (S bs))).run Tryz.prog (w.alloc (.cells zN 77)) = .ok (.slice (some ⟨(w.alloc (.cells zN 77)).heap.size, 0, none⟩) bs.length c1) W1 := hcv
  have hrow' : Row W1 (some ⟨(w.alloc (.cells zN 77)).heap.size, 0, none⟩) bs := hrow
  have hc1' : bs.length ≤ c1 := hc1
  have hZ := bx_bel (Bx.new w zN 77) hb1
  have hBw : Below w.heap.size w W1 := ((Below.refl _ w).alloc (Nat.le_refl _) _).trans (hb1.mono (by simp))
  obtain ⟨ca, hca⟩ : ∃ ca, (some ⟨(w.alloc (.cells zN 77)).heap.size, 0, none⟩ : Option Addr) = ca := ⟨_, rfl⟩
  rw [hca] at hcv' hrow'
  obtain ⟨WA, hWA⟩ : ∃ WA, w.alloc (.cells zN 77) = WA := ⟨_, rfl⟩
  unfold zN at hWA
  rw [show w.alloc (.cells zN 77) = WA from hWA] at hcv'
  clear hcv hrow hc1 hb1 hs1 hca
  have HZ := mkH hZ
  have HBw := mkH hBw
  have HRow := mkH hrow'
  clear hZ hBw hrow'
  go_upto_region 1 with fail
  clear hWA
  go_upto_block 0 with fail
  -- LOOP
  have hx2 : Bx (W1.alloc (.cells #[.int .i64 0, .int .i64 0] 118)) W1.heap.size #[.int .i64 0, .int .i64 0] 118 := Bx.new _ _ _
  have hal : Below W1.heap.size W1 (W1.alloc (.cells #[.int .i64 0, .int .i64 0] 118)) := (Below.refl _ _).alloc (Nat.le_refl _) _
  have hz2 := bx_bel HZ.out hal
  have hr2 := HRow.out.below hal
  have hb2 : Below w.heap.size w (W1.alloc (.cells #[.int .i64 0, .int .i64 0] 118)) := HBw.out.trans (hal.mono HBw.out.size)
  have HZL : Hid (w.heap.size < W1.heap.size) := mkH HZ.out.lt
  have hal2 : ∀ a, ca = some a → 0 < bs.length → a.block ≠ W1.heap.size := fun a e h0 => by
    obtain ⟨b', off', e', hc⟩ := HRow.out h0
    have hlt := World.block_lt_of_cell? W1 _ (hc 0 h0)
    rw [e] at e'
    cases e'
    simp only at hlt ⊢
    omega
  have HBw2 := HBw
  generalize W1.alloc (.cells #[.int .i64 0, .int .i64 0] 118) = W2 at *
  have HX2 := mkH hx2
  have HZ2 := mkH hz2
  have HR2 := mkH hr2
  have HB2 := mkH hb2
  have HAL2 := mkH hal2
  clear hx2 hal hz2 hr2 hb2 hal2 hcv' HZ HRow
  go_cut [4] (fun s4 wr => ∃ (cur : Bs) (ca2 : Option Addr) (cc : Nat) (n0 n1 : Int), s4 = .slice ca2 cur.length cc ∧ cur.length ≤ cc ∧ cc ≤ 9223372036854775807 ∧ cur.length ≤ 500000000 ∧ Hid (Bx wr W1.heap.size #[.int .i64 n0, .int .i64 n1] 118) ∧ Hid (Bx wr w.heap.size zN 77) ∧ Hid (Row wr ca2 cur) ∧ Hid (Below w.heap.size w wr) ∧ Hid (∃ b1, pNum bs = .ok (n0, b1) ∧ num n0 ∧ pNum b1 = .ok (n1, cur) ∧ num n1))
  case first =>
    go_wp2_with fail
    go_loopw [4, 14] (fun s4 i wr => ∃ (j : Nat) (cur : Bs) (ca2 : Option Addr) (cc : Nat) (n0 n1 : Int), j ≤ 2 ∧ i = .int .i64 (j : Int) ∧ s4 = .slice ca2 cur.length cc ∧ cur.length ≤ cc ∧ cc ≤ 9223372036854775807 ∧ cur.length ≤ 500000000 ∧ Hid (Bx wr W1.heap.size #[.int .i64 n0, .int .i64 n1] 118) ∧ Hid (Bx wr w.heap.size zN 77) ∧ Hid (Row wr ca2 cur) ∧ Hid (Below w.heap.size w wr) ∧ Hid (∀ a, ca2 = some a → 0 < cur.length → a.block ≠ W1.heap.size) ∧ Hid (if j = 0 then cur = bs else if j = 1 then pNum bs = .ok (n0, cur) ∧ num n0 else ∃ b1, pNum bs = .ok (n0, b1) ∧ num n0 ∧ pNum b1 = .ok (n1, cur) ∧ num n1)) (fun _ i _ => 2 - (intOf i).toNat)
    case atStart => exact ⟨0, bs, ca, c1, 0, 0, Nat.zero_le _, rfl, rfl, hc1', hc2, hl, HX2, HZ2, HR2, HB2, HAL2, mkH rfl⟩
    case round =>
      obtain ⟨j, cur, ca2, cc, n0, n1, hj, rfl, rfl, hcc, hcc2, hcl, HX, HZr, HRr, HBr, HAL, HRS⟩ := hrel
      clear HX2 HZ2 HR2 HB2 HAL2
      rcases (by omega : j = 0 ∨ j = 1 ∨ j = 2) with rfl | rfl | rfl
      · have HR0 : Hid (cur = bs) := HRS
        rcases readNum_err cur with ⟨n, k, hrn⟩ | hrn | hrn
        · obtain ⟨hk1, hk2, hk3, hk4⟩ := readNum_once hrn
          by_cases hnum : num (n : Int)
          · have hdn : decide (num (n : Int)) = true := by simp [hnum]
            have hki : (k : Int) ≤ (cur.length : Int) := by omega
            have hki2 : (k : Int) ≤ (cc : Int) := by omega
            have HPN : Hid (pNum cur = .ok ((n : Int), cur.drop k)) := mkH (by unfold pNum; rw [hrn]; rfl)
            have HNM := mkH hnum
            have HRN := mkH hrn
            clear hrn hk4 hnum hk3
            go_wp2_with (first
              | (go_at_call 64; refine (readNum_any _ ca2 cc cur HRr.out (by omega)).mono ?_; rintro e1 w1 ⟨rfl, h⟩; rw [HRN.out]; have h2 := h.symm; clear h; subst h2; unfold ans)
              | (go_at_call 27; refine (isNumber_any _ _).mono ?_; rintro e1 w1 ⟨rfl, h⟩; have h2 := h.symm; clear h; subst h2))
            have HXV := mkH HX.out.drew
            have HZV := mkH HZr.out.drew
            have HBV := mkH HBr.out.drew
            have HRV := mkH (HRr.out.below (below_drew _))
            refine Rg.region_G hmx 6 (fun _ => True) trivial (fun hHeld => ?_)
            generalize wr.drew = V0 at *
            refine Rg.anyG_pure (i := 0) (oi := { dst := some 31, op := _, type := _, pos := _, after := _, guard := _ }) (v := ?_) rfl (by kernel_rfl) (by kernel_rfl) (by kernel_rfl) (by rfl) (fun _ _ _ h => h) (Or.inl ⟨by rfl, ?_⟩) (fun _ => by assumption) ?_
            rotate_left
            · (intro W hSw; (try dsimp only at hSw); go_simp; try (with_reducible rfl))
            try simp only [Act.put, List.setIfInBounds_toArray, List.set_cons_zero, List.set_cons_succ]
            refine Rg.anyG_pure (i := 1) (oi := { dst := some 32, op := _, type := _, pos := _, after := _, guard := _ }) (v := ?_) rfl (by kernel_rfl) (by kernel_rfl) (by kernel_rfl) (by rfl) (fun _ _ _ h => h) (Or.inl ⟨by rfl, ?_⟩) (fun _ => by assumption) ?_
            rotate_left
            · (intro W hSw; (try dsimp only at hSw); go_simp; try (with_reducible rfl))
            try simp only [Act.put, List.setIfInBounds_toArray, List.set_cons_zero, List.set_cons_succ]
            refine Rg.anyG_pure (i := 2) (oi := { dst := some 33, op := _, type := _, pos := _, after := _, guard := _ }) (v := ?_) rfl (by kernel_rfl) (by kernel_rfl) (by kernel_rfl) (by rfl) (fun _ _ _ h => h) (Or.inl ⟨by rfl, ?_⟩) (fun _ => by assumption) ?_
            rotate_left
            · (intro W hSw; (try dsimp only at hSw); go_simp; try (with_reducible rfl))
            try simp only [Act.put, List.setIfInBounds_toArray, List.set_cons_zero, List.set_cons_succ]
            refine Rg.anyG_pure (i := 3) (oi := { dst := some 34, op := _, type := _, pos := _, after := _, guard := _ }) (v := ?_) rfl (by kernel_rfl) (by kernel_rfl) (by kernel_rfl) (by rfl) (fun _ _ _ h => h) (Or.inl ⟨by rfl, ?_⟩) (fun _ => by assumption) ?_
            rotate_left
            · (intro W hSw; (try dsimp only at hSw); go_simp; try (with_reducible rfl))
            try simp only [Act.put, List.setIfInBounds_toArray, List.set_cons_zero, List.set_cons_succ]
            refine Rg.anyG_pure (i := 4) (oi := { dst := some 35, op := _, type := _, pos := _, after := _, guard := _ }) (v := ?_) rfl (by kernel_rfl) (by kernel_rfl) (by kernel_rfl) (by rfl) (fun _ _ _ h => h) (Or.inl ⟨by rfl, ?_⟩) (fun _ => by assumption) ?_
            rotate_left
            · (intro W hSw; (try dsimp only at hSw); go_simp; try (with_reducible rfl))
            try simp only [Act.put, List.setIfInBounds_toArray, List.set_cons_zero, List.set_cons_succ]
            refine Rg.anyG_pure (i := 5) (oi := { dst := some 36, op := _, type := _, pos := _, after := _, guard := _ }) (v := ?_) rfl (by kernel_rfl) (by kernel_rfl) (by kernel_rfl) (by rfl) (fun _ _ _ h => h) (Or.inl ⟨by rfl, ?_⟩) (fun _ => by assumption) ?_
            rotate_left
            · (intro W hSw; (try dsimp only at hSw); go_simp; try (with_reducible rfl))
            try simp only [Act.put, List.setIfInBounds_toArray, List.set_cons_zero, List.set_cons_succ]
            refine Rg.anyG_ready (rs := [6]) (by kernel_rfl) (by simp) ?_
            refine Rg.AllG.last (o := { dst := none, op := _, type := _, pos := _, after := _, guard := _ }) rfl (by kernel_rfl) (fun K hK => ?_)
            have cz : V0.cell? ⟨W1.heap.size, 0, none⟩ = some (.int .i64 n0) := HXV.out.cell 0
            have fz := HXV.out.frozen 0
            have hbx : Bx (V0.setCell ⟨W1.heap.size, 0, none⟩ (.int .i64 (n : Int))) W1.heap.size #[.int .i64 (n : Int), .int .i64 n1] 118 := HXV.out.set 0 _
            have hzx := HZV.out.other (p := ⟨W1.heap.size, 0, none⟩) (by have := HZV.out.lt; have := HZL.out; simp; omega) (.int .i64 (n : Int))
            have hbb : Below w.heap.size w (V0.setCell ⟨W1.heap.size, 0, none⟩ (.int .i64 (n : Int))) := HBV.out.setCell (by have := HBw.out.size; simp; omega) _
            have hrr : Row (V0.setCell ⟨W1.heap.size, 0, none⟩ (.int .i64 (n : Int))) ca2 cur := Go.Proofs.YtenkgpfeifflnaaGreat.Srd.row_set HRV.out (p := ⟨W1.heap.size, 0, none⟩) (fun a e => HAL.out a e) _
            obtain ⟨V1, hV1⟩ : ∃ V, V0.setCell ⟨W1.heap.size, 0, none⟩ (.int .i64 (n : Int)) = V := ⟨_, rfl⟩
            rw [hV1] at hbx hzx hbb hrr
            have HX1 := mkH hbx
            have HZ1 := mkH hzx
            have HB1 := mkH hbb
            have HR1 := mkH hrr
            have hH1 := mkH hV1
            clear hbx hzx hbb hrr hV1
            go_simp
            rw [hH1.out]
            clear cz fz
            refine hK.out _ _ ?_
            clear hK K
            try simp only [Act.put, List.setIfInBounds_toArray, List.set_cons_zero, List.set_cons_succ]
            refine Rg.anyG_pure (i := 7) (oi := { dst := some 4, op := _, type := _, pos := _, after := _, guard := _ }) (v := ?_) rfl (by kernel_rfl) (by kernel_rfl) (by kernel_rfl) (by rfl) (fun _ _ _ h => h) (Or.inl ⟨by rfl, ?_⟩) (fun h => absurd (h.symm.trans (show _ = true by kernel_rfl)) Bool.false_ne_true) ?_
            rotate_left
            · (intro W hSw; (try dsimp only at hSw); go_simp; try (with_reducible rfl))
            try simp only [Act.put, List.setIfInBounds_toArray, List.set_cons_zero, List.set_cons_succ]
            refine Rg.anyG_done (by kernel_rfl) ?_ _
            go_wp2_with fail
            refine ⟨⟨1, cur.drop k, _, cc - k, (n : Int), n1, by omega, rfl, by rw [List.length_drop], by rw [List.length_drop]; omega, by omega, by rw [List.length_drop]; omega, HX1, HZ1, mkH (Row_drop HR1.out hcc), HB1, mkH (Go.Proofs.YtenkgpfeifflnaaGreat.Srd.al_drop HAL.out hcc), mkH (⟨by rw [← HR0.out]; exact HPN.out, HNM.out⟩)⟩, ?_⟩
            simp [intOf]
          · have hdn : decide (num (n : Int)) = false := by simp [hnum]
            have HN : Hid (rdE bs = none) := mkH (by have hp : pNum bs = .ok ((n : Int), cur.drop k) := (by rw [← HR0.out]; unfold pNum; rw [hrn]; rfl); unfold rdE; rw [hp]; simp only; rw [if_neg hnum])
            have HRN := mkH hrn
            clear hrn hk4 hnum hk3
            go_wp2_with (first
              | (go_at_call 64; refine (readNum_any _ ca2 cc cur HRr.out (by omega)).mono ?_; rintro e1 w1 ⟨rfl, h⟩; rw [HRN.out]; have h2 := h.symm; clear h; subst h2; unfold ans)
              | (go_at_call 27; refine (isNumber_any _ _).mono ?_; rintro e1 w1 ⟨rfl, h⟩; have h2 := h.symm; clear h; subst h2)
              | (refine wpList_st rfl (ty := 77) (x := .tmp 2) (y := .tmp 30) (cs := zN) rfl rfl rfl HZr.out infoN rfl one_zN ?_))
            refine ret_ct 2 3 77 rfl w.heap.size rfl rfl (load_bx (P := Tryz.prog) (HZr.out.row rfl) Tryz.underlying77 rfl infoN) rfl ?_
            exact ⟨bel_setRow HBr.out (Nat.le_refl _) _, .inr ⟨HN.out, rfl⟩⟩
        · have HN : Hid (rdE bs = none) := mkH (by have hp : pNum bs = .error 4 := (by rw [← HR0.out]; unfold pNum; rw [hrn]; rfl); unfold rdE; rw [hp])
          have HRN := mkH hrn
          clear hrn
          go_wp2_with (first
            | (go_at_call 64; refine (readNum_any _ ca2 cc cur HRr.out (by omega)).mono ?_; rintro e1 w1 ⟨rfl, h⟩; rw [HRN.out]; have h2 := h.symm; clear h; subst h2; unfold ans)
            | (refine wpList_st rfl (ty := 77) (x := .tmp 2) (y := .tmp 30) (cs := zN) rfl rfl rfl HZr.out infoN rfl one_zN ?_))
          refine ret_ct 2 3 77 rfl w.heap.size rfl rfl (load_bx (P := Tryz.prog) (HZr.out.row rfl) Tryz.underlying77 rfl infoN) rfl ?_
          exact ⟨bel_setRow HBr.out (Nat.le_refl _) _, .inr ⟨HN.out, rfl⟩⟩
        · have HN : Hid (rdE bs = none) := mkH (by have hp : pNum bs = .error 5 := (by rw [← HR0.out]; unfold pNum; rw [hrn]; rfl); unfold rdE; rw [hp])
          have HRN := mkH hrn
          clear hrn
          go_wp2_with (first
            | (go_at_call 64; refine (readNum_any _ ca2 cc cur HRr.out (by omega)).mono ?_; rintro e1 w1 ⟨rfl, h⟩; rw [HRN.out]; have h2 := h.symm; clear h; subst h2; unfold ans)
            | (refine wpList_st rfl (ty := 77) (x := .tmp 2) (y := .tmp 30) (cs := zN) rfl rfl rfl HZr.out infoN rfl one_zN ?_))
          refine ret_ct 2 3 77 rfl w.heap.size rfl rfl (load_bx (P := Tryz.prog) (HZr.out.row rfl) Tryz.underlying77 rfl infoN) rfl ?_
          exact ⟨bel_setRow HBr.out (Nat.le_refl _) _, .inr ⟨HN.out, rfl⟩⟩
      · have HR1q : Hid (pNum bs = .ok (n0, cur) ∧ num n0) := HRS
        rcases readNum_err cur with ⟨n, k, hrn⟩ | hrn | hrn
        · obtain ⟨hk1, hk2, hk3, hk4⟩ := readNum_once hrn
          by_cases hnum : num (n : Int)
          · have hdn : decide (num (n : Int)) = true := by simp [hnum]
            have hki : (k : Int) ≤ (cur.length : Int) := by omega
            have hki2 : (k : Int) ≤ (cc : Int) := by omega
            have HPN : Hid (pNum cur = .ok ((n : Int), cur.drop k)) := mkH (by unfold pNum; rw [hrn]; rfl)
            have HNM := mkH hnum
            have HRN := mkH hrn
            clear hrn hk4 hnum hk3
            go_wp2_with (first
              | (go_at_call 64; refine (readNum_any _ ca2 cc cur HRr.out (by omega)).mono ?_; rintro e1 w1 ⟨rfl, h⟩; rw [HRN.out]; have h2 := h.symm; clear h; subst h2; unfold ans)
              | (go_at_call 27; refine (isNumber_any _ _).mono ?_; rintro e1 w1 ⟨rfl, h⟩; have h2 := h.symm; clear h; subst h2))
            have HXV := mkH HX.out.drew
            have HZV := mkH HZr.out.drew
            have HBV := mkH HBr.out.drew
            have HRV := mkH (HRr.out.below (below_drew _))
            refine Rg.region_G hmx 6 (fun _ => True) trivial (fun hHeld => ?_)
            generalize wr.drew = V0 at *
            refine Rg.anyG_pure (i := 0) (oi := { dst := some 31, op := _, type := _, pos := _, after := _, guard := _ }) (v := ?_) rfl (by kernel_rfl) (by kernel_rfl) (by kernel_rfl) (by rfl) (fun _ _ _ h => h) (Or.inl ⟨by rfl, ?_⟩) (fun _ => by assumption) ?_
            rotate_left
            · (intro W hSw; (try dsimp only at hSw); go_simp; try (with_reducible rfl))
            try simp only [Act.put, List.setIfInBounds_toArray, List.set_cons_zero, List.set_cons_succ]
            refine Rg.anyG_pure (i := 1) (oi := { dst := some 32, op := _, type := _, pos := _, after := _, guard := _ }) (v := ?_) rfl (by kernel_rfl) (by kernel_rfl) (by kernel_rfl) (by rfl) (fun _ _ _ h => h) (Or.inl ⟨by rfl, ?_⟩) (fun _ => by assumption) ?_
            rotate_left
            · (intro W hSw; (try dsimp only at hSw); go_simp; try (with_reducible rfl))
            try simp only [Act.put, List.setIfInBounds_toArray, List.set_cons_zero, List.set_cons_succ]
            refine Rg.anyG_pure (i := 2) (oi := { dst := some 33, op := _, type := _, pos := _, after := _, guard := _ }) (v := ?_) rfl (by kernel_rfl) (by kernel_rfl) (by kernel_rfl) (by rfl) (fun _ _ _ h => h) (Or.inl ⟨by rfl, ?_⟩) (fun _ => by assumption) ?_
            rotate_left
            · (intro W hSw; (try dsimp only at hSw); go_simp; try (with_reducible rfl))
            try simp only [Act.put, List.setIfInBounds_toArray, List.set_cons_zero, List.set_cons_succ]
            refine Rg.anyG_pure (i := 3) (oi := { dst := some 34, op := _, type := _, pos := _, after := _, guard := _ }) (v := ?_) rfl (by kernel_rfl) (by kernel_rfl) (by kernel_rfl) (by rfl) (fun _ _ _ h => h) (Or.inl ⟨by rfl, ?_⟩) (fun _ => by assumption) ?_
            rotate_left
            · (intro W hSw; (try dsimp only at hSw); go_simp; try (with_reducible rfl))
            try simp only [Act.put, List.setIfInBounds_toArray, List.set_cons_zero, List.set_cons_succ]
            refine Rg.anyG_pure (i := 4) (oi := { dst := some 35, op := _, type := _, pos := _, after := _, guard := _ }) (v := ?_) rfl (by kernel_rfl) (by kernel_rfl) (by kernel_rfl) (by rfl) (fun _ _ _ h => h) (Or.inl ⟨by rfl, ?_⟩) (fun _ => by assumption) ?_
            rotate_left
            · (intro W hSw; (try dsimp only at hSw); go_simp; try (with_reducible rfl))
            try simp only [Act.put, List.setIfInBounds_toArray, List.set_cons_zero, List.set_cons_succ]
            refine Rg.anyG_pure (i := 5) (oi := { dst := some 36, op := _, type := _, pos := _, after := _, guard := _ }) (v := ?_) rfl (by kernel_rfl) (by kernel_rfl) (by kernel_rfl) (by rfl) (fun _ _ _ h => h) (Or.inl ⟨by rfl, ?_⟩) (fun _ => by assumption) ?_
            rotate_left
            · (intro W hSw; (try dsimp only at hSw); go_simp; try (with_reducible rfl))
            try simp only [Act.put, List.setIfInBounds_toArray, List.set_cons_zero, List.set_cons_succ]
            refine Rg.anyG_ready (rs := [6]) (by kernel_rfl) (by simp) ?_
            refine Rg.AllG.last (o := { dst := none, op := _, type := _, pos := _, after := _, guard := _ }) rfl (by kernel_rfl) (fun K hK => ?_)
            have cz : V0.cell? ⟨W1.heap.size, 1, none⟩ = some (.int .i64 n1) := HXV.out.cell 1
            have fz := HXV.out.frozen 1
            have hbx : Bx (V0.setCell ⟨W1.heap.size, 1, none⟩ (.int .i64 (n : Int))) W1.heap.size #[.int .i64 n0, .int .i64 (n : Int)] 118 := HXV.out.set 1 _
            have hzx := HZV.out.other (p := ⟨W1.heap.size, 1, none⟩) (by have := HZV.out.lt; have := HZL.out; simp; omega) (.int .i64 (n : Int))
            have hbb : Below w.heap.size w (V0.setCell ⟨W1.heap.size, 1, none⟩ (.int .i64 (n : Int))) := HBV.out.setCell (by have := HBw.out.size; simp; omega) _
            have hrr : Row (V0.setCell ⟨W1.heap.size, 1, none⟩ (.int .i64 (n : Int))) ca2 cur := Go.Proofs.YtenkgpfeifflnaaGreat.Srd.row_set HRV.out (p := ⟨W1.heap.size, 1, none⟩) (fun a e => HAL.out a e) _
            obtain ⟨V1, hV1⟩ : ∃ V, V0.setCell ⟨W1.heap.size, 1, none⟩ (.int .i64 (n : Int)) = V := ⟨_, rfl⟩
            rw [hV1] at hbx hzx hbb hrr
            have HX1 := mkH hbx
            have HZ1 := mkH hzx
            have HB1 := mkH hbb
            have HR1 := mkH hrr
            have hH1 := mkH hV1
            clear hbx hzx hbb hrr hV1
            go_simp
            rw [hH1.out]
            clear cz fz
            refine hK.out _ _ ?_
            clear hK K
            try simp only [Act.put, List.setIfInBounds_toArray, List.set_cons_zero, List.set_cons_succ]
            refine Rg.anyG_pure (i := 7) (oi := { dst := some 4, op := _, type := _, pos := _, after := _, guard := _ }) (v := ?_) rfl (by kernel_rfl) (by kernel_rfl) (by kernel_rfl) (by rfl) (fun _ _ _ h => h) (Or.inl ⟨by rfl, ?_⟩) (fun h => absurd (h.symm.trans (show _ = true by kernel_rfl)) Bool.false_ne_true) ?_
            rotate_left
            · (intro W hSw; (try dsimp only at hSw); go_simp; try (with_reducible rfl))
            try simp only [Act.put, List.setIfInBounds_toArray, List.set_cons_zero, List.set_cons_succ]
            refine Rg.anyG_done (by kernel_rfl) ?_ _
            go_wp2_with fail
            refine ⟨⟨2, cur.drop k, _, cc - k, n0, (n : Int), by omega, rfl, by rw [List.length_drop], by rw [List.length_drop]; omega, by omega, by rw [List.length_drop]; omega, HX1, HZ1, mkH (Row_drop HR1.out hcc), HB1, mkH (Go.Proofs.YtenkgpfeifflnaaGreat.Srd.al_drop HAL.out hcc), mkH (⟨cur, HR1q.out.1, HR1q.out.2, HPN.out, HNM.out⟩)⟩, ?_⟩
            simp [intOf]
          · have hdn : decide (num (n : Int)) = false := by simp [hnum]
            have HN : Hid (rdE bs = none) := mkH (by have hp : pNum cur = .ok ((n : Int), cur.drop k) := (by unfold pNum; rw [hrn]; rfl); unfold rdE; rw [HR1q.out.1]; simp only; rw [if_pos HR1q.out.2, hp]; simp only; rw [if_neg hnum])
            have HRN := mkH hrn
            clear hrn hk4 hnum hk3
            go_wp2_with (first
              | (go_at_call 64; refine (readNum_any _ ca2 cc cur HRr.out (by omega)).mono ?_; rintro e1 w1 ⟨rfl, h⟩; rw [HRN.out]; have h2 := h.symm; clear h; subst h2; unfold ans)
              | (go_at_call 27; refine (isNumber_any _ _).mono ?_; rintro e1 w1 ⟨rfl, h⟩; have h2 := h.symm; clear h; subst h2)
              | (refine wpList_st rfl (ty := 77) (x := .tmp 2) (y := .tmp 30) (cs := zN) rfl rfl rfl HZr.out infoN rfl one_zN ?_))
            refine ret_ct 2 3 77 rfl w.heap.size rfl rfl (load_bx (P := Tryz.prog) (HZr.out.row rfl) Tryz.underlying77 rfl infoN) rfl ?_
            exact ⟨bel_setRow HBr.out (Nat.le_refl _) _, .inr ⟨HN.out, rfl⟩⟩
        · have HN : Hid (rdE bs = none) := mkH (by have hp : pNum cur = .error 4 := (by unfold pNum; rw [hrn]; rfl); unfold rdE; rw [HR1q.out.1]; simp only; rw [if_pos HR1q.out.2, hp])
          have HRN := mkH hrn
          clear hrn
          go_wp2_with (first
            | (go_at_call 64; refine (readNum_any _ ca2 cc cur HRr.out (by omega)).mono ?_; rintro e1 w1 ⟨rfl, h⟩; rw [HRN.out]; have h2 := h.symm; clear h; subst h2; unfold ans)
            | (refine wpList_st rfl (ty := 77) (x := .tmp 2) (y := .tmp 30) (cs := zN) rfl rfl rfl HZr.out infoN rfl one_zN ?_))
          refine ret_ct 2 3 77 rfl w.heap.size rfl rfl (load_bx (P := Tryz.prog) (HZr.out.row rfl) Tryz.underlying77 rfl infoN) rfl ?_
          exact ⟨bel_setRow HBr.out (Nat.le_refl _) _, .inr ⟨HN.out, rfl⟩⟩
        · have HN : Hid (rdE bs = none) := mkH (by have hp : pNum cur = .error 5 := (by unfold pNum; rw [hrn]; rfl); unfold rdE; rw [HR1q.out.1]; simp only; rw [if_pos HR1q.out.2, hp])
          have HRN := mkH hrn
          clear hrn
          go_wp2_with (first
            | (go_at_call 64; refine (readNum_any _ ca2 cc cur HRr.out (by omega)).mono ?_; rintro e1 w1 ⟨rfl, h⟩; rw [HRN.out]; have h2 := h.symm; clear h; subst h2; unfold ans)
            | (refine wpList_st rfl (ty := 77) (x := .tmp 2) (y := .tmp 30) (cs := zN) rfl rfl rfl HZr.out infoN rfl one_zN ?_))
          refine ret_ct 2 3 77 rfl w.heap.size rfl rfl (load_bx (P := Tryz.prog) (HZr.out.row rfl) Tryz.underlying77 rfl infoN) rfl ?_
          exact ⟨bel_setRow HBr.out (Nat.le_refl _) _, .inr ⟨HN.out, rfl⟩⟩
      · have HR2q : Hid (∃ b1, pNum bs = .ok (n0, b1) ∧ num n0 ∧ pNum b1 = .ok (n1, cur) ∧ num n1) := HRS
        go_wp2_with fail
        go_meet
        case rel => exact ⟨cur, ca2, cc, n0, n1, rfl, hcc, hcc2, hcl, HX, HZr, HRr, HBr, HR2q⟩
  case rest =>
    obtain ⟨cur, ca2, cc, n0, n1, rfl, hcc, hcc2, hcl, HX, HZr, HRr, HBr, HRS⟩ := hcut
    go_wp2_with fail
    refine (readRpd_any wc ca2 cc cur HRr.out (by omega) hcc hcc2).mono ?_
    rintro e1 W5 ⟨hb5, ⟨c, ga, gc, da, dc, ra, rc, hrp, rfl, hm5, hfg, hfd, hfr, hcn⟩ | ⟨er, hrp, hne, rfl⟩⟩
    · have HE : Hid (rdE bs = some ⟨n0, n1, c⟩) := mkH (by
        obtain ⟨b1, h1, h2, h3, h4⟩ := HRS.out
        unfold rdE
        rw [h1]
        simp only
        rw [if_pos h2, h3]
        simp only
        rw [if_pos h4, hrp])
      have HX5 := mkH (bx_bel HX.out hb5)
      have HZ5 := mkH (bx_bel HZr.out hb5)
      have HB5 := mkH (HBr.out.trans (hb5.mono HBr.out.size))
      have HM5 := mkH hm5
      have hws := HBr.out.size
      have HFL : Hid (Far (fun k => w.heap.size ≤ k) ga da ra) := mkH ⟨fun a h => (by have := hfg a h; omega), fun a h => (by have := hfd a h; omega), fun a h => (by have := hfr a h; omega)⟩
      have hwl := HZr.out.lt
      have HFA : Hid (∀ a, (ga = some a ∨ da = some a ∨ ra = some a) → a.block ≠ w.heap.size) := mkH (fun a ha => by rcases ha with h | h | h; exact (by have := hfg a h; omega); exact (by have := hfd a h; omega); exact (by have := hfr a h; omega))
      have HCN := mkH hcn
      clear hfg hfd hfr hwl hws hb5 hm5 hcn hrp HX HZr HRr HBr HRS
      go_wp2_with (first
        | (refine wpList_st rfl (ty := 77) (x := .tmp 2) (y := .tmp 52) (cs := (nC ⟨⟨n0, n1, c⟩, ga, gc, da, dc, ra, rc⟩).toArray) rfl rfl rfl HZ6.out infoN rfl (by rw [List.all_toArray]; rfl) ?_)
        | (refine Wy.wpList_ld (ty := 34) (x := .tmp 10) (v := .agg #[.int .i64 c.err, .int .i64 c.seq, .int .i64 c.n, .slice ga c.got.length gc, .slice da c.data.length dc, .slice ra c.about.length rc]) rfl rfl rfl (load_pv HP6.out) ?_)
        | (refine wpList_stn rfl (ty := 34) (x := .tmp 10) (y := .tmp 41) (cs := Pv c ga gc da dc ra rc) (zs := Sw.zP6) rfl rfl rfl (Sw.infoPv _ _ _ _ _ _ _) (Sw.sizePv _ _ _ _ _ _ _) (Pv_one _ _ _ _ _ _ _) (fun W6 hB hg => ?_); have HP6 := mkH hB; have HX6 := mkH (bx_bel HX5.out hg.below); have HZ6 := mkH (bx_bel HZ5.out hg.below); have HB6 := mkH (HB5.out.trans (hg.below.mono HB5.out.size)); have HM6 := mkH (HM5.out.below hg.below); have x0 : W6.cell? ⟨W1.heap.size, 0, none⟩ = some (.int .i64 n0) := HX6.out.cell 0; have x1 : W6.cell? ⟨W1.heap.size, 1, none⟩ = some (.int .i64 n1) := HX6.out.cell 1; clear hB hg))
      refine ret_ct 2 3 77 rfl w.heap.size rfl rfl (load_bx (P := Tryz.prog) (HZ6.out.row (cs := (nC ⟨⟨n0, n1, c⟩, ga, gc, da, dc, ra, rc⟩).toArray) rfl) Tryz.underlying77 rfl infoN) rfl ?_
      refine ⟨bel_setRow HB6.out (Nat.le_refl _) _, .inl ⟨⟨⟨n0, n1, c⟩, ga, gc, da, dc, ra, rc⟩, HE.out, rfl, HFL.out, ⟨HM6.out.got.setRow (fun a h => HFA.out a (.inl h)) _, Wk.RowT.setRow HM6.out.data (fun a h => HFA.out a (.inr (.inl h))) _, HM6.out.about.setRow (fun a h => HFA.out a (.inr (.inr h))) _⟩, HCN.out⟩⟩
    · have HN : Hid (rdE bs = none) := mkH (by
        obtain ⟨b1, h1, h2, h3, h4⟩ := HRS.out
        unfold rdE
        rw [h1]
        simp only
        rw [if_pos h2, h3]
        simp only
        rw [if_pos h4, hrp])
      have hne1 : ¬ (er : Int) = 0 := by omega
      have hne2 : ((er : Int) != 0) = true := by simpa using hne1
      have HZ5 := mkH (bx_bel HZr.out hb5)
      have HB5 := mkH (HBr.out.trans (hb5.mono HBr.out.size))
      clear hb5 hrp HX HZr HRr HBr HRS hne
      go_wp2_with (first
        | (refine wpList_st rfl (ty := 77) (x := .tmp 2) (y := .tmp 45) (cs := zN) rfl rfl rfl HZ6.out infoN rfl one_zN ?_)
        | (refine wpList_stn rfl (ty := 34) (x := .tmp 10) (y := .tmp 41) (cs := Pv Rp.none none 0 none 0 none 0) (zs := Sw.zP6) rfl rfl rfl (Sw.infoPv _ _ _ _ _ _ _) (Sw.sizePv _ _ _ _ _ _ _) (Pv_one _ _ _ _ _ _ _) (fun W6 hB hg => ?_); have HZ6 := mkH (bx_bel HZ5.out hg.below); have HB6 := mkH (HB5.out.trans (hg.below.mono HB5.out.size)); clear hB hg))
      refine ret_ct 2 3 77 rfl w.heap.size rfl rfl (load_bx (P := Tryz.prog) (HZ6.out.row rfl) Tryz.underlying77 rfl infoN) rfl ?_
      exact ⟨bel_setRow HB6.out (Nat.le_refl _) _, .inr ⟨HN.out, rfl⟩⟩
end Go.Proofs.YtenkgpfeifflnaaGreat.Srd

namespace Go.Proofs.YtenkgpfeifflnaaGreat.Gf
open Go.RowKit Kt
set_option linter.unusedVariables false
set_option linter.unusedSectionVars false
set_option linter.unusedSimpArgs false

/-- Of the old blocks only those of F have turned. -/
structure Fr (F : Nat → Prop) (w w' : World) : Prop where
  os : w'.os = w.os
  tape : w'.tape = w.tape
  output : w'.output = w.output
  size : w.heap.size ≤ w'.heap.size
  block : ∀ k, k < w.heap.size → ¬ F k → w'.heap[k]? = w.heap[k]?
theorem Fr.refl (F : Nat → Prop) (w : World) : Fr F w w := ⟨rfl, rfl, rfl, Nat.le_refl _, fun _ _ _ => rfl⟩
theorem Fr.ofBelow {F : Nat → Prop} {w w' : World} (h : Below w.heap.size w w') : Fr F w w' := ⟨h.os, h.tape, h.output, h.size, fun k hk _ => h.block k hk⟩
theorem Fr.mono {F G : Nat → Prop} {w w' : World} (h : Fr F w w') (hi : ∀ k, F k → G k) : Fr G w w' := ⟨h.os, h.tape, h.output, h.size, fun k hk hn => h.block k hk (fun hf => hn (hi k hf))⟩
/-- .. and what is new since w may turn as well. -/
theorem Fr.trans {F G : Nat → Prop} {w w1 w2 : World} (h : Fr F w w1) (k : Fr G w1 w2) (hg : ∀ i, G i → F i ∨ w.heap.size ≤ i) : Fr F w w2 :=
  ⟨k.os.trans h.os, k.tape.trans h.tape, k.output.trans h.output, Nat.le_trans h.size k.size, fun i hi hn =>
    (k.block i (Nat.lt_of_lt_of_le hi h.size) (fun hgi => by rcases hg i hgi with x | x; exact hn x; omega)).trans (h.block i hi hn)⟩
theorem Fr.alloc {F : Nat → Prop} {w w' : World} (h : Fr F w w') (o : Obj) : Fr F w (w'.alloc o) :=
  ⟨h.os, h.tape, h.output, by simp; have := h.size; omega, fun k hk hn => (Below.heap_alloc w' o k (Nat.lt_of_lt_of_le hk h.size)).trans (h.block k hk hn)⟩
theorem Fr.drewN {F : Nat → Prop} {w w' : World} (h : Fr F w w') (n : Nat) : Fr F w (w'.drewN n) := ⟨h.os, h.tape, h.output, h.size, h.block⟩
theorem Fr.setRow {F : Nat → Prop} {w w' : World} (h : Fr F w w') {b : Nat} (hb : F b ∨ w.heap.size ≤ b) (cs : Array Value) : Fr F w (w'.setRow b cs) :=
  ⟨h.os, h.tape, h.output, by rw [setRow_size]; exact h.size, fun k hk hn => (setRow_other w' b k cs (by rintro rfl; rcases hb with x | x; exact hn x; omega)).trans (h.block k hk hn)⟩
theorem Fr.below {F : Nat → Prop} {B : Nat} {w w' : World} (h : Fr F w w') (hF : ∀ k, F k → B ≤ k) (hs : B ≤ w.heap.size) : Below B w w' :=
  ⟨h.os, h.tape, h.output, h.size, fun k hk => h.block k (by omega) (fun hf => by have := hF k hf; omega)⟩
theorem Fr.heap {F : Nat → Prop} {w w' : World} (h : Fr F w w') {k : Nat} (hk : k < w.heap.size) (hn : ¬ F k) : w'.heap[k]? = w.heap[k]? := h.block k hk hn

theorem block_lt {w : World} {b : Nat} {o : Obj} (h : w.heap[b]? = some o) : b < w.heap.size := (Array.getElem?_eq_some_iff.1 h).1
theorem below_drewN {B : Nat} {a w : World} (h : Below B a w) (n : Nat) : Below B a (w.drewN n) := ⟨h.os, h.tape, h.output, h.size, h.block⟩


theorem fr_grown {w w' : World} {v : Option Nat} (h : w.grownBy w' v) : Fr (fun k => v = some k) w w' := by
  obtain ⟨h1, h2, h3, h4, h5⟩ := h
  exact ⟨h1, h2, h3, h4, fun k hk hn => h5 k hk (fun e => hn e.symm)⟩
end Go.Proofs.YtenkgpfeifflnaaGreat.Gf

namespace Go.Proofs.YtenkgpfeifflnaaGreat.Gv
open Go.RowKit Kt
set_option linter.unusedVariables false

section
variable {P : Program} (w : World)

/-- 'append(v, x...)' onto a row of the call's own, from whatever source. -/
theorem run_append_own_src_at (base : Nat) (t tx ty e : TypeId) (i : TypeInfo) (z : Value) (size bytes : Nat) (ht : P.underlying t = some (.slice e)) (hi : P.info? e = some i) (hz : i.zero = some z)
    (hsize : i.size = size) (hby : i.bytes = bytes) (hzs : z.cells.size = size) (hsz : 0 < size)
    (v : Value) (n : Nat) (xs : List Value) (hown : w.ownsRow base e size v n xs) (x : Value) (m : Nat) (news : List Value) (hs : Src P size tx x m news w)
    (h63 : n + m ≤ maxLen) (hbytes : (n + m) * bytes ≤ 140737488355328) (hbase : base ≤ w.heap.size) :
    ∃ v' w', (Builtin.append_ #[t, tx] ty #[v, x]).run P w = .ok v' w' ∧ w'.ownsRow base e size v' (n + m) (xs ++ news) ∧ w.grownBy w' v.ownBlock ∧ (v'.ownBlock = v.ownBlock ∨ v'.ownBlock = some w.heap.size) := by
  subst hsize
  subst hby
  have hl := hs.newsLen
  have hsmall : n + m ≤ 9223372036854775807 := by simp only [maxLen] at h63; omega
  have hlen : (xs ++ news).length = (n + m) * i.size := by rw [List.length_append, hown.1, hl, Nat.add_mul]
  have grown : ∀ (old : Nat), old < n + m → ∀ (row : Option Nat),
      (w.drew.alloc (.cells ((xs ++ news).toArray ++ Builtin.zeroCells z.cells (grownCap w (n + m) old e - (n + m))) e)).ownsRow base e i.size
        (.slice (some ⟨w.heap.size, 0, none⟩) (n + m) (grownCap w (n + m) old e)) (n + m) (xs ++ news) ∧
      w.grownBy (w.drew.alloc (.cells ((xs ++ news).toArray ++ Builtin.zeroCells z.cells (grownCap w (n + m) old e - (n + m))) e)) row := by
    intro old ho row
    have hge := grownCap_ge w (n + m) old e
    have hcm : grownCap w (n + m) old e ≤ maxLen := grownCap_le_maxLen w (n + m) old e h63
    refine ⟨⟨hlen, .inr ⟨w.heap.size, _, _, rfl, hbase, heap_alloc_new w.drew _, hge, hcm, ?_, ?_⟩⟩, ⟨rfl, rfl, rfl, by simp, fun k hk _ => Below.heap_alloc w.drew _ k hk⟩⟩
    · simp only [Array.size_append, List.size_toArray, size_zeroCells, hzs, hlen, ← Nat.add_mul]
      congr 1
      omega
    · simp only [Array.toList_append]
      rw [← hlen]
      exact List.take_left
  rcases hown.2 with ⟨rfl, rfl⟩ | ⟨g, cap, cur, rfl, hbg, hg, hnc, hcm, hcs, htake⟩
  · have hx : xs = [] := List.eq_nil_of_length_eq_zero (by simpa using hown.1)
    subst hx
    by_cases hm : m = 0
    · subst hm
      have hn : news = [] := List.eq_nil_of_length_eq_zero (by simpa using hl)
      subst hn
      refine ⟨.slice none 0 0, w, ?_, World.ownsRow_nil w base e i.size, ⟨rfl, rfl, rfl, Nat.le_refl _, fun _ _ _ => rfl⟩, .inl rfl⟩
      rcases hs.kind with ⟨e', hk⟩ | hk <;> simp [Builtin.append_, run_underlying ht, run_underlying hk, sizeOf, typeInfo, hi, hs.len, hs.cells]
    · have hr := run_append_grow_src (P := P) w t tx ty e i z ht hi hz none 0 0 [] (run_firstCells_none w.drew i.size 0 0 0) x m news hs (by omega) (by omega) (growslice_fits (by omega) hbytes)
      have hgr := grown 0 (by omega) (Value.ownBlock (.slice none 0 0))
      simp only [Nat.zero_add, List.nil_append] at hgr hr ⊢
      exact ⟨_, _, hr, hgr.1, hgr.2, .inr rfl⟩
  · by_cases hroom : n + m ≤ cap
    · have hfit : n * i.size + news.length ≤ cur.size := by rw [hl, hcs, ← Nat.add_mul]; exact Nat.mul_le_mul_right _ hroom
      have hst := run_storeCells_at P g (n * i.size) e news 0 cur w hg (by simpa using hfit) hs.one
      simp only [Nat.add_zero] at hst
      have hr : (Builtin.append_ #[t, tx] ty #[.slice (some ⟨g, 0, none⟩) n cap, x]).run P w =
          .ok (.slice (some ⟨g, 0, none⟩) (n + m) cap) (w.setRow g (cur.toList.take (n * i.size) ++ news ++ cur.toList.drop (n * i.size + news.length)).toArray) := by
        rcases hs.kind with ⟨e', hk⟩ | hk <;> simp [Builtin.append_, run_underlying ht, run_underlying hk, sizeOf, typeInfo, hi, hs.len, hroom, hs.cells, Addr.add_lit, hst]
      refine ⟨_, _, hr, ⟨hlen, .inr ⟨g, cap, _, rfl, hbg, setRow_heap w g cur _ e _ hg, hroom, hcm, ?_, ?_⟩⟩, ⟨rfl, rfl, rfl, by simp, fun k _ hk => setRow_other w g k _ (fun e => hk (by simp [Value.ownBlock, e]))⟩, .inl rfl⟩
      · simp only [List.size_toArray, List.length_append, List.length_take, List.length_drop, Array.length_toList]
        omega
      · rw [htake, ← hlen]
        exact List.take_left
    · have holds : ∀ j u, xs[j]? = some u → w.cell? ((⟨g, 0, none⟩ : Addr).add j) = some u := hown.cells (g := g) rfl
      have hold := run_firstCells_some (P := P) w.drew i.size n ⟨g, 0, none⟩ n cap xs hown.1 (by simpa using holds)
      have hr := run_append_grow_src (P := P) w t tx ty e i z ht hi hz (some ⟨g, 0, none⟩) n cap xs hold x m news hs (by omega) (by omega) (growslice_fits (by omega) hbytes)
      have hgr := grown cap (by omega) (Value.ownBlock (.slice (some ⟨g, 0, none⟩) n cap))
      exact ⟨_, _, hr, hgr.1, hgr.2, .inr rfl⟩

/-- The same at the walk's list of operations. -/
theorem wpList_append_own_src_at {ops : Array Oper} {rest : List Oper} {o : Oper} {a : Act} {Q : Exit → Act → World → Prop} (hgd : o.guard = none) (s x : Operand) (t tx : TypeId)
    (ho : o.op = .call { callee := .builtin .append, args := #[s, x], argTypes := #[t, tx] })
    (base : Nat) (e : TypeId) (z : Value) (size bytes : Nat) (ht : P.underlying t = some (.slice e)) (hinfo : (P.info? e).map (fun i => (i.zero, i.size, i.bytes)) = some (some z, size, bytes))
    (hzs : z.cells.size = size) (hsz : 0 < size)
    (v : Value) (n : Nat) (xs : List Value) (hs : a.eval s = v) (hown : w.ownsRow base e size v n xs)
    (xv : Value) (m : Nat) (news : List Value) (hx : a.eval x = xv) (hsrc : Src P size tx xv m news w)
    (h63 : n + m ≤ maxLen) (hbytes : (n + m) * bytes ≤ 140737488355328) (hbase : base ≤ w.heap.size)
    (h : ∀ v' w', w'.ownsRow base e size v' (n + m) (xs ++ news) → w.grownBy w' v.ownBlock → (v'.ownBlock = v.ownBlock ∨ v'.ownBlock = some w.heap.size) → wpList P ops Q rest (a.put o.dst v') w') : wpList P ops Q (o :: rest) a w := by
  obtain ⟨i, hi, hz, hsize, hby⟩ := info_parts hinfo
  refine wpList_plain hgd fun _ hK => ?_
  obtain ⟨v', w', hr, h2, h3, h4⟩ := run_append_own_src_at (P := P) w base t tx o.type e i z size bytes ht hi hz hsize hby hzs hsz v n xs hown xv m news hsrc h63 hbytes hbase
  unfold Oper.wp execOp
  simp only [ho, resolve, invoke, builtin, Sem.run_bind, Sem.run_pure, Result.andThen_ok, List.map_toArray, List.map_cons, List.map_nil, hs, hx, hr]
  exact hK _ _ (h v' w' h2 h3 h4)
end


theorem own_other {w w' : World} {base e size n : Nat} {v : Value} {xs : List Value} {row : Option Nat} (h : w.ownsRow base e size v n xs) (hg : w.grownBy w' row) (hne : ∀ k, v.ownBlock = some k → row ≠ some k) : w'.ownsRow base e size v n xs := by
  refine ⟨h.1, ?_⟩
  rcases h.2 with h1 | ⟨g, cap, cur, rfl, e2, e3, e4⟩
  · exact .inl h1
  · exact .inr ⟨g, cap, cur, rfl, e2, (hg.block g (Array.getElem?_eq_some_iff.1 e3).1 (fun e => hne g rfl e.symm)).trans e3, e4⟩
end Go.Proofs.YtenkgpfeifflnaaGreat.Gv
