/-
  whole, of wire, at commands: read, ended, checked; what stopped is told.
-/
import Derived.Test.YtjboldahmndkeaaWiU
namespace Go.Proofs.Ytjboldahmndkeaa.Wu
open Go.RowKit Kt Pl Wi Wk Wf Wfw Wq Wy Wx
open At (RowT)
set_option linter.unusedVariables false
set_option linter.unusedSimpArgs false
set_option maxRecDepth 20000

theorem hmf : ∀ (fn : Fn) (first cap : Array Value) (w : World), (Instr.makeFunc fn first cap).run Try.prog w = .ok (.func fn first cap) w := fun _ _ _ _ => rfl
theorem startZ2 {f : FuncId} {args : Array Value} {R : Ending → World → Prop} {w : World} {zs ys : Array Value} {u v : TypeId}
    (h : ∀ W0, Bx W0 w.heap.size zs u → Bx W0 (w.heap.size + 1) ys v → Gr w W0 → W0.heap.size = w.heap.size + 2 → Calls Try.prog f args W0 R) : Calls Try.prog f args ((w.alloc (.cells zs u)).alloc (.cells ys v)) R :=
  h _ ((Bx.new w zs u).alloc _) (by have := Bx.new (w.alloc (.cells zs u)) ys v; simpa using this) (((Gr.refl w).alloc _).alloc _) (by simp)

/-- What the reading of a whole command tells. -/
def WhC (rb : Nat) (w : World) (bs : Bs) (e : Ending) (w' : World) : Prop := On rb w w' ∧
  ((∃ c ao cap, readCm bs = .ok c ∧ e = .returned (.tuple #[.agg (Cv c (.slice ao c.data.length cap)), .int .i64 0]) ∧ RowT w' ao c.data ∧ (∀ a, ao = some a → w.heap.size ≤ a.block) ∧ c.data.length ≤ 1024)
   ∨ (∃ er : Nat, readCm bs = .error er ∧ er ≠ 0 ∧ e = .returned (.tuple #[.agg Zc, .int .i64 er])))
theorem Two.on {b c rb : Nat} {w w1 w' : World} (h : Two b c w1 w') (k : On rb w w1) (hb : w.heap.size ≤ b) (hc : w.heap.size ≤ c) : On rb w w' :=
  ⟨h.os.trans k.os, h.tape.trans k.tape, h.output.trans k.output, Nat.le_trans k.size h.size, fun i hi hne => (h.block i (Nat.lt_of_lt_of_le hi k.size) (by omega) (by omega)).trans (k.block i hi hne)⟩
theorem On.setRow {b g : Nat} {w w' : World} (h : On b w w') (hg : w.heap.size ≤ g) (cs : Array Value) : On b w (w'.setRow g cs) :=
  ⟨h.os, h.tape, h.output, by simpa using h.size, fun i hi hne => by rw [setRow_other _ _ _ _ (by omega)]; exact h.block i hi hne⟩
theorem On.setNew {b : Nat} {w w' : World} (h : On b w w') {p : Addr} (hg : w.heap.size ≤ p.block) (v : Value) : On b w (w'.setCell p v) :=
  ⟨h.os, h.tape, h.output, by simpa using h.size, fun i hi hne => by rw [heap_setCell_other _ _ _ _ (by omega)]; exact h.block i hi hne⟩

theorem onRow (w : World) (g : Nat) (cs : Array Value) : On g w (w.setRow g cs) :=
  ⟨rfl, rfl, rfl, by simp, fun i hi hne => setRow_other _ _ _ _ (fun e => hne (by rw [e]))⟩
theorem load_err {w : World} {b : Nat} {v : Value} (h : Bx w b #[v] 31) : (loadVar 31 ⟨b, 0, none⟩).run Try.prog w = .ok v w := by
  have hc : w.cell? ⟨b, 0, none⟩ = some v := h.cell 0
  go_simp

theorem results_two {fn : Func} {p q : Tmp} {t u : TypeId} (h : fn.results = #[.cell p t, .cell q u]) (tmps : Array Value) (P : Program) (w : World) {b c : Addr} {x y : Value}
    (hp : tmps.getD p undef = .pointer (some b)) (hq : tmps.getD q undef = .pointer (some c)) (hx : (loadVar t b).run P w = .ok x w) (hy : (loadVar u c).run P w = .ok y w) :
    (results fn tmps).run P w = .ok (.tuple #[x, y]) w := by
  have hp' : tmps[p]?.getD undef = .pointer (some b) := by simpa using hp
  have hq' : tmps[q]?.getD undef = .pointer (some c) := by simpa using hq
  simp only [results, h]
  simp [Sem.run_bind, Result.andThen, hp', hq', asAddr, hx, hy]
theorem door_ok (w : World) (tmps C : Array Value) (v : Value) (R : Ending → World → Prop) (b c : Nat) (hB : Bx w b C 28) (hC : C.size = 19) (hE : Bx w c #[v] 31)
    (h6 : tmps.getD 6 undef = .pointer (some ⟨b, 0, none⟩)) (h7 : tmps.getD 7 undef = .pointer (some ⟨c, 0, none⟩)) (hR : R (.returned (.tuple #[.agg C, v])) w) :
    bodyPostD Try.prog Try.f45 R .ret { tmps := tmps, defers := [{ target := .fn (Fn.func 63) #[.pointer (some ⟨b, 0, none⟩), .pointer (some ⟨c, 0, none⟩)], args := #[] }] } w := by
  refine leaves_cons (f := 63) (args := #[.pointer (some ⟨b, 0, none⟩), .pointer (some ⟨c, 0, none⟩)]) (by simp) (by simp [go_sem]) ?_
  refine (idle_any _ _ w).mono ?_
  rintro e u' w'' ⟨rfl, rfl, rfl⟩
  exact ⟨_, results_two rfl _ _ _ h6 h7 (load_bx hB Try.underlying28 rfl (hC ▸ infoC)) (load_err hE), hR⟩
theorem door_bad (w : World) (tmps C : Array Value) (v : Value) (R : Ending → World → Prop) (b c er : Nat) (hB : Bx w b C 28) (hC : C.size = 19) (hE : Bx w c #[v] 31) (hne : b ≠ c)
    (h6 : tmps.getD 6 undef = .pointer (some ⟨b, 0, none⟩)) (h7 : tmps.getD 7 undef = .pointer (some ⟨c, 0, none⟩)) (hR : ∀ w', Two b c w w' → R (.returned (.tuple #[.agg Zc, .int .i64 er])) w') :
    bodyPostD Try.prog Try.f45 R (.panic [{ v := .iface 97 (.agg #[.int .i64 er]), recovered := false }]) { tmps := tmps, defers := [{ target := .fn (Fn.func 63) #[.pointer (some ⟨b, 0, none⟩), .pointer (some ⟨c, 0, none⟩)], args := #[] }] } w := by
  refine leaves_cons (f := 63) (args := #[.pointer (some ⟨b, 0, none⟩), .pointer (some ⟨c, 0, none⟩)]) (by simp) (by simp [go_sem]) ?_
  refine (catch_any b c er C v [] w hB hC hE hne).mono ?_
  rintro e u' w'' ⟨rfl, rfl, hB', hE', hT⟩
  exact ⟨_, results_two rfl _ _ _ h6 h7 (load_bx hB' Try.underlying28 rfl infoC) (load_err hE'), hR _ hT⟩

set_option maxHeartbeats 8000000 in
theorem whole_any (w : World) (rb : Nat) (bs : Bs) (hst : Rst w rb bs) (hlen : bs.length ≤ 1000000000) : 
    Calls Try.prog 45 #[.pointer (some ⟨rb, 0, none⟩), .func (Fn.func 46) #[.pointer (some ⟨rb, 0, none⟩)] #[], .func (Fn.func 11) #[] #[]] w fun e w' => WhC rb w bs e w' := by
  have hmf := hmf
  have hrb := hst.lt
  go_enter_defers Try.func45, Try.ntmps45
  go_wp2_with fail
  refine startZ2 (zs := Zc) (fun W0 hZ hY hG hsz => ?_)
  have HO0 := mkH (On.ofBelow (b := rb) hG.below)
  have hs0 := hst.below hG.below
  have hlo : W0.heap.size = w.heap.size + 2 := hsz
  clear hst hG hsz
  have HC := cmd_any W0 rb bs hs0 hlen
  rw [hlo] at HC
  clear hs0 hlo
  have HB0 := mkH hZ
  have HY0 := mkH hY
  have HW : Hid (∀ e w', WhC rb w bs e w' → WhC rb w bs e w') := mkH (fun _ _ h => h)
  clear hZ hY
  refine HC.mono ?_
  rintro e W1 ⟨ho1, hc1⟩
  have HO1 := mkH (HO0.out.trans ho1)
  have HB1 := mkH (Wq.Bx.on HB0.out (by omega) ho1)
  have HY1 := mkH (Wq.Bx.on HY0.out (by omega) ho1)
  clear HC ho1 HO0 HB0 HY0
  rcases hc1 with ⟨c, r1, v, hp, rfl, hv, hs, hl1⟩ | ⟨er, hp, her, rfl⟩
  rotate_left
  · unfold stopE
    go_wp2_with fail
    have HE : readCm bs = .error er := by unfold readCm Wi.whole; rw [hp]
    exact door_bad W1 _ Zc _ _ _ _ er HB1.out rfl HY1.out (by omega) rfl rfl (fun w' hT => ⟨hT.on HO1.out (by omega) (by omega), .inr ⟨er, HE, her, rfl⟩⟩)
  obtain ⟨ao, cap, rfl, hr, hlo, hdl⟩ := hv
  have h1 : (Cv c (.slice ao c.data.length cap)).all (fun x => x.oneCell') = true := by unfold Cv; rw [List.all_toArray]; rfl
  have H1 := mkH h1
  clear h1
  go_wp2_with (refine wpList_st rfl rfl rfl rfl HB1.out (cs := Cv c (.slice ao c.data.length cap)) infoC rfl H1.out ?_)
  have HB2 := mkH (HB1.out.row (cs := Cv c (.slice ao c.data.length cap)) rfl)
  have HY2 := mkH (HY1.out.rowOther (g := w.heap.size) (by omega) (Cv c (.slice ao c.data.length cap)))
  have HO2 := mkH (On.setRow HO1.out (Nat.le_refl _) (Cv c (.slice ao c.data.length cap)))
  have HR2 := mkH (Wk.RowT.setRow hr (g := w.heap.size) (fun a ha => by have := hlo a ha; omega) (Cv c (.slice ao c.data.length cap)))
  have hs2 : Rst (W1.setRow w.heap.size (Cv c (.slice ao c.data.length cap))) rb r1 := by
    obtain ⟨ao', cap', k1, k2, k3, k4, k5⟩ := hs
    exact ⟨ao', cap', k1.rowOther (by omega) _, Wq.Row.on k2 (rb := w.heap.size) (fun h a ha => by have := k5 h a ha; omega) (onRow _ _ _), k3, k4, k5⟩
  have HHP := mkH hp
  have HLO := mkH hlo
  have HDL := mkH hdl
  clear HB1 HY1 HO1 hr hs hp hlo hdl
  generalize W1.setRow w.heap.size (Cv c (.slice ao c.data.length cap)) = W2 at *
  have HEND := end_any W2 rb r1 hs2 hl1
  clear hs2 hl1
  refine HEND.mono ?_
  rintro e W3 ⟨rfl, h⟩
  rcases h with ⟨h0, rfl⟩ | ⟨h0, rfl⟩
  rotate_left
  · unfold stopE
    go_wp2_with fail
    have HE : readCm bs = .error 5 := by unfold readCm Wi.whole; rw [HHP.out]; simp [h0]
    exact door_bad W3 _ _ _ _ _ _ 5 HB2.out rfl HY2.out (by omega) rfl rfl (fun w' hT => ⟨hT.on HO2.out (by omega) (by omega), .inr ⟨5, HE, by omega, rfl⟩⟩)
  have HRD : Hid (readCm bs = if checkC c ≠ 0 then .error (checkC c) else .ok c) := mkH (by unfold readCm Wi.whole; rw [HHP.out]; simp [h0])
  clear HEND h0 HHP
  have HCK := check_any W3 c ao cap HR2.out (by have := HDL.out; omega)
  go_wp2_with (refine wpList_ld rfl rfl rfl (load_cm HB2.out) ?_)
  refine HCK.mono ?_
  rintro e W4 ⟨rfl, hG⟩
  have HB4 := mkH (HB2.out.gr hG)
  have HY4 := mkH (HY2.out.gr hG)
  have HO4 := mkH (HO2.out.trans (On.ofBelow hG.below))
  have HR4 := mkH (RowT.gr HR2.out hG)
  clear HCK hG HB2 HY2 HO2 HR2
  by_cases hck : checkC c = 0
  rotate_left
  · have HS := stopAt_bad W4 (checkC c) hck
    have HE : readCm bs = .error (checkC c) := by rw [HRD.out]; simp [hck]
    go_wp2_with fail
    refine HS.mono ?_
    rintro e W5 ⟨rfl, rfl⟩
    unfold stopE
    clear HS
    go_wp2_with fail
    exact door_bad W5 _ _ _ _ _ _ _ HB4.out rfl HY4.out (by omega) rfl rfl (fun w' hT => ⟨hT.on HO4.out (by omega) (by omega), .inr ⟨_, HE, hck, rfl⟩⟩)
  have HE : Hid (readCm bs = .ok c) := mkH (by rw [HRD.out]; simp [hck])
  have HS := stopAt_ok W4
  rw [hck]
  clear HRD hck
  go_wp2_with fail
  refine HS.mono ?_
  rintro e W5 ⟨rfl, rfl⟩
  clear HS
  have HB5 := mkH (HB4.out.row (cs := Cv c (.slice ao c.data.length cap)) rfl)
  have hy5 := HY4.out.rowOther (g := w.heap.size) (by omega) (Cv c (.slice ao c.data.length cap))
  have HO5 := mkH (On.setRow HO4.out (Nat.le_refl _) (Cv c (.slice ao c.data.length cap)))
  have HR5 := mkH (Wk.RowT.setRow HR4.out (g := w.heap.size) (fun a ha => by have := HLO.out a ha; omega) (Cv c (.slice ao c.data.length cap)))
  have hc5 : (W5.setRow w.heap.size (Cv c (.slice ao c.data.length cap))).cell? ⟨w.heap.size + 1, 0, none⟩ = some (.int .i64 0) := hy5.cell 0
  have hf5 := hy5.frozen 0
  have HY5 := mkH hy5
  clear hy5
  go_wp2_with (first
    | (refine wpList_ld rfl rfl rfl (load_cm HB4.out) ?_)
    | (refine wpList_st rfl rfl rfl rfl HB4.out (cs := Cv c (.slice ao c.data.length cap)) infoC rfl H1.out ?_))
  generalize W5.setRow w.heap.size (Cv c (.slice ao c.data.length cap)) = W6 at *
  have HY6 : Hid (Bx (W6.setCell ⟨w.heap.size + 1, 0, none⟩ (.int .i64 0)) (w.heap.size + 1) #[.int .i64 0] 31) := mkH (HY5.out.set 0 (.int .i64 0))
  refine door_ok _ _ _ _ _ _ _ (HB5.out.other (p := ⟨w.heap.size + 1, 0, none⟩) (by simp) _) rfl HY6.out rfl rfl ⟨On.setNew HO5.out (by simp) _, .inl ⟨c, ao, cap, HE.out, rfl, Wk.RowT.setCell HR5.out (fun a ha => by have := HLO.out a ha; simp; omega) _, fun a ha => by have := HLO.out a ha; omega, HDL.out⟩⟩
end Go.Proofs.Ytjboldahmndkeaa.Wu
