/-
  DgF DgQ DgG DgH DgI GpC, joined by mrg.py.
-/
import Derived.Test.YtgbbajeeelgbhaaGreatDoorSqAL
import Derived.Deep.RegionHeld3
import Derived.Deep.RegionLaw
import Derived.Test.YtgbbajeeelgbhaaGreatDoorSqAK
import Derived.Lib.SlBytesConst
import Derived.Test.YtgbbajeeelgbhaaGreatDoorSqAH

namespace Go.Proofs.YtgbbajeeelgbhaaGreatDoor.Df
open Go.RowKit Kt Dk Dw Ds Dt De
set_option linter.unusedVariables false
set_option maxRecDepth 20000

/-- Block b is a Hash that has these bytes. -/
def Hs (w : World) (b : Nat) (all : List UInt8) : Prop :=
  ∃ blk, blk.take (all.length % 64) = all.drop (64 * (all.length / 64)) ∧ H w b (Dp.blks Dp.init all (all.length / 64)).list blk all.length 460

/-- What becomes of a block as bytes come. -/
theorem step_full (all c blk : List UInt8) (hb : blk.length = 64) (hblk : blk.take (all.length % 64) = all.drop (64 * (all.length / 64))) (hc : all.length % 64 + c.length = 64) :
    Dp.blks Dp.init (all ++ c) ((all ++ c).length / 64) = Dp.comp (Dp.blks Dp.init all (all.length / 64)) (blk.take (all.length % 64) ++ c ++ blk.drop (all.length % 64 + c.length)) ∧ (all ++ c).length % 64 = 0 := by
  have hl : (all ++ c).length = 64 * (all.length / 64 + 1) := by rw [List.length_append]; omega
  refine ⟨?_, by omega⟩
  rw [hl, Nat.mul_div_cancel_left _ (by decide), Dp.blks, Dp.blks_append _ _ _ _ (by omega), List.drop_append_of_le_length (by omega), List.take_of_length_le (by rw [List.length_append, List.length_drop]; omega),
    hblk, List.drop_eq_nil_of_le (show blk.length ≤ all.length % 64 + c.length by omega), List.append_nil]
theorem step_part (all c blk : List UInt8) (hb : blk.length = 64) (hblk : blk.take (all.length % 64) = all.drop (64 * (all.length / 64))) (hc : all.length % 64 + c.length < 64) :
    Dp.blks Dp.init (all ++ c) ((all ++ c).length / 64) = Dp.blks Dp.init all (all.length / 64) ∧ (blk.take (all.length % 64) ++ c ++ blk.drop (all.length % 64 + c.length)).take ((all ++ c).length % 64) = (all ++ c).drop (64 * ((all ++ c).length / 64)) := by
  have hl : (all ++ c).length / 64 = all.length / 64 := by rw [List.length_append]; omega
  have hl2 : (all ++ c).length % 64 = all.length % 64 + c.length := by rw [List.length_append]; omega
  have h1 : (blk.take (all.length % 64) ++ c).length = all.length % 64 + c.length := by simp; omega
  refine ⟨by rw [hl]; exact Dp.blks_append _ _ _ _ (by omega), ?_⟩
  rw [hl, hl2, List.take_left' h1, List.drop_append_of_le_length (by omega), hblk]

/-- A guard: this step is a copy of these operands. -/
theorem atCopy {P : Program} {ops : Array Oper} {o : Oper} {a : Act} {w : World} {K : Act → World → Prop} {Q : Exit → Act → World → Prop} {E : Prop} (s x : Operand) (t tx : TypeId)
    (hop : o.op = Op.call { callee := Callee.builtin Builtin.copy, args := #[s, x], argTypes := #[t, tx] }) (h : if Region.wanted o (yielded ops a.tmps) = true then Oper.wp P o a w K Q else E) :
    if Region.wanted o (yielded ops a.tmps) = true then Oper.wp P o a w K Q else E := h
theorem step_copy {P : Program} {ops : Array Oper} {o : Oper} {a : Act} {w : World} {K : Act → World → Prop} {Q : Exit → Act → World → Prop} {E : Prop}
    (hg : o.guard = none) (s x : Operand) (t tx : TypeId) (hop : o.op = Op.call { callee := Callee.builtin Builtin.copy, args := #[s, x], argTypes := #[t, tx] })
    (sv xv v' : Value) (w' : World) (hs : a.eval s = sv) (hx : a.eval x = xv) (hr : (Builtin.copy_ #[t, tx] o.type #[sv, xv]).run P w = .ok v' w')
    (hK : K (a.put o.dst v') w') :
    if Region.wanted o (yielded ops a.tmps) = true then Oper.wp P o a w K Q else E := by
  have hw : Region.wanted o (yielded ops a.tmps) = true := by simp [Region.wanted, hg]
  rw [if_pos hw]
  unfold Oper.wp
  simp [execOp, hop, resolve, invoke, builtin, hs, hx, hr, Result.andThen]
  exact hK

theorem hSetN {W : World} {b : Nat} {l : List Nat} {blk : List UInt8} {n : Nat} {T : TypeId} (h : H W b l blk n T) (m : Nat) : H (W.setCell ⟨b, 73, none⟩ (.int .i64 (m : Int))) b l blk m T ∧ Only b W (W.setCell ⟨b, 73, none⟩ (.int .i64 (m : Int))) := by
  obtain ⟨h1, h2, h3⟩ := h
  rw [setCell_eq_setRow W b 73 _ T (0, 0) _ h3, hc_set_n h1 h2 m]
  exact ⟨⟨h1, h2, setRow_heap _ _ _ _ _ _ h3⟩, (Only.refl b W).setRow _⟩

/-- A slice of bytes outside block b. -/
def RowN (w : World) (b : Nat) (ao : Option Addr) (bs : List UInt8) : Prop := Row w ao bs ∧ ∀ a, ao = some a → a.block ≠ b
theorem RowN.only {w w' : World} {b : Nat} {ao : Option Addr} {bs : List UInt8} (h : RowN w b ao bs) (ho : Only b w w') : RowN w' b ao bs := by
  refine ⟨fun hl => ?_, h.2⟩
  obtain ⟨b2, off, e, hc⟩ := h.1 hl
  refine ⟨b2, off, e, fun i hi => ?_⟩
  have h1 := hc i hi
  have hne := h.2 _ e
  rw [← h1]
  exact World.cell?_of_block (w := w) (ho.heap (World.block_lt_of_cell? w _ h1) hne)
theorem RowN.drop {w : World} {b : Nat} {ao : Option Addr} {bs : List UInt8} (h : RowN w b ao bs) (m : Nat) : RowN w b (Option.map (fun x => x.add m) ao) (bs.drop m) := by
  constructor
  · intro hl
    simp only [List.length_drop] at hl
    obtain ⟨b2, off, rfl, hc⟩ := h.1 (by omega)
    refine ⟨b2, off + m, by simp [Addr.add_lit], fun i hi => ?_⟩
    simp only [List.length_drop] at hi
    rw [Nat.add_assoc, hc (m + i) (by omega)]
    simp [List.getD, List.getElem?_drop]
  · intro a ha
    cases ao with
    | none => cases ha
    | some x =>
      simp only [Option.map_some, Option.some.injEq] at ha
      subst ha
      have := h.2 x rfl
      unfold Addr.add
      split <;> simpa using this
theorem RowN.nil (w : World) (b : Nat) {ao : Option Addr} (h : ∀ a, ao = some a → a.block ≠ b) : RowN w b ao [] := ⟨Row.nil _ _, h⟩

set_option maxHeartbeats 4000000 in
theorem write_any (w : World) (b : Nat) (all : List UInt8) (ao : Option Addr) (cap : Nat) (bs : List UInt8) (hT : Tb w) (hb0 : 0 < b) (hS : Hs w b all) (hr : RowN w b ao bs) (hn : all.length + bs.length ≤ 100000) (hcap : bs.length ≤ cap) (hcap2 : cap ≤ 9223372036854775807) :
    Calls Tryz.prog 388 #[.pointer (some ⟨b, 0, none⟩), .slice ao bs.length cap] w fun e w' => e = .returned (.int .i64 0) ∧ Hs w' b (all ++ bs) ∧ Only b w w' := by
  go_enter Tryz.func388, Tryz.ntmps388
  have hm : w.cell? ⟨b, 0, none⟩ = some (.bool true) := by obtain ⟨_, _, h⟩ := hS; exact hMade h
  go_wp2_with fail
  refine (isMade_any w b hm).mono ?_
  rintro e w1 ⟨rfl, hw1⟩
  have hw2 := hw1.symm
  subst hw2
  clear hm hw1
  go_wp2_with fail
  go_loopw [1] (fun v W => ∃ (k : Nat) (ao2 : Option Addr) (cap2 n2 : Nat), k ≤ bs.length ∧ v = .slice ao2 n2 cap2 ∧ Hid (n2 = (bs.drop k).length) ∧ n2 ≤ cap2 ∧ cap2 ≤ 9223372036854775807 ∧ Hid (RowN W b ao2 (bs.drop k)) ∧ Hid (Hs W b (all ++ bs.take k)) ∧ Hid (Only b w W)) (fun v _ => (match v with | .slice _ n _ => n | _ => 0))
  case atStart => exact ⟨0, ao, cap, bs.length, by omega, rfl, rfl, hcap, hcap2, hr, mkH (by rw [List.take_zero, List.append_nil]; exact hS), Only.refl _ _⟩
  case round =>
    obtain ⟨k, ao2, cap2, n2, hk, rfl, hn2, hc1, hc2, hR, hSS, hO⟩ := hrel
    clear hS hr hcap hcap2
    by_cases hlt : k = bs.length
    · have h0 : n2 = 0 := by rw [hn2.out, hlt]; simp
      subst h0
      have HE : Hid (Hs wr b (all ++ bs)) := by have := hSS.out; rw [hlt, List.take_length] at this; exact this
      go_wp2
      go_ret
      exact ⟨rfl, HE.out, hO.out⟩
    · have h0 : 0 < n2 := by rw [hn2.out, List.length_drop]; omega
      have t0 : decide ((0 : Int) < (n2 : Int)) = true := by simp; omega
      have hSS' := hSS.out
      obtain ⟨blk, hblk, hH⟩ := hSS'
      obtain ⟨al, hal⟩ : ∃ al, all ++ bs.take k = al := ⟨_, rfl⟩
      rw [hal] at hblk hH
      obtain ⟨sL, hsL⟩ : ∃ sL, Dp.blks Dp.init al (al.length / 64) = sL := ⟨_, rfl⟩
      rw [hsL] at hH
      have hall : al.length = all.length + k := by rw [← hal, List.length_append, List.length_take]; omega
      obtain ⟨r, hr⟩ : ∃ r, al.length % 64 = r := ⟨_, rfl⟩
      obtain ⟨n, hnl⟩ : ∃ n, al.length = n := ⟨_, rfl⟩
      have hsz := hSize hH
      rw [hnl] at hsz
      have tm : (n : Int).tmod 64 = (r : Int) := by rw [Int.tmod_eq_emod_of_nonneg (by omega)]; omega
      have hr64 : r < 64 := by omega
      have hsl := fun W => run_arr_low (P := Tryz.prog) W 458 5 64 Tryz.underlying458 (by kernel_rfl) b 9 r (r : Int) rfl hr64
      have hR' := hR.out
      have hl8 := hH.1
      have hl64 := hH.2.1
      obtain ⟨m, hm⟩ : ∃ m, min n2 (64 - r) = m := ⟨_, rfl⟩
      have hcl : ((bs.drop k).take (64 - r)).length = m := by rw [List.length_take, ← hn2.out, ← hm, Nat.min_comm]
      have hcp : ∀ q ty, (Builtin.copy_ #[41, 41] ty #[.slice (some ⟨b, 9 + r, none⟩) (64 - r) (64 - r), .slice ao2 n2 cap2]).run Tryz.prog (wr.drewN q) = .ok (.int .i64 (m : Int)) ((wr.drewN q).setRow b (hc sL.list (blk.take r ++ (bs.drop k).take (64 - r) ++ blk.drop (r + m)) n)) := fun q ty => by
        have := run_copy_any (P := Tryz.prog) (w := wr.drewN q) 41 41 ty 5 b (9 + r) (64 - r) (64 - r) ao2 cap2 (bs.drop k) hR'.1 Tryz.underlying41 (by kernel_rfl) _ _ hH.2.2 (by rw [hc_size hH.1 hH.2.1]; omega) (by rw [← hn2.out]; exact h0)
        rw [← hn2.out, hm, hc_splice hl8 hl64 r _ (by rw [hcl]; omega), hcl, hnl] at this
        exact this
      obtain ⟨c, hcd⟩ : ∃ c, (bs.drop k).take (64 - r) = c := ⟨_, rfl⟩
      rw [hcd] at hcp hcl
      have hm1 : m ≤ n2 := by omega
      have hm2 : m ≤ 64 - r := by omega
      have hm3 : 0 < m := by omega
      have hkm : k + m ≤ bs.length := by have := hn2.out; rw [List.length_drop] at this; omega
      have hct : bs.take (k + m) = bs.take k ++ c := by
        rw [List.take_add, ← hcd]
        congr 1
        by_cases hmm : m = 64 - r
        · rw [hmm]
        · rw [List.take_of_length_le (i := m) (by rw [← hn2.out]; omega), List.take_of_length_le (i := 64 - r) (by rw [← hn2.out]; omega)]
      obtain ⟨aq, haq⟩ : ∃ aq, (if cap2 = m then ao2 else Option.map (fun x => x.add m) ao2) = aq := ⟨_, rfl⟩
      have HRq : Hid (∀ W, Only b wr W → RowN W b aq (bs.drop (k + m))) := by
        intro W ho
        have h1 := hR'.only ho
        rw [← haq]
        split
        · have : bs.drop (k + m) = [] := List.drop_eq_nil_of_le (by have := hn2.out; rw [List.length_drop] at this; omega)
          rw [this]; exact RowN.nil _ _ h1.2
        · have := h1.drop m
          rw [List.drop_drop] at this; exact this
      have hH2 : ∀ q, H ((wr.drewN q).setRow b (hc sL.list (blk.take r ++ c ++ blk.drop (r + m)) n)) b sL.list (blk.take r ++ c ++ blk.drop (r + m)) n 460 ∧ Only b wr ((wr.drewN q).setRow b (hc sL.list (blk.take r ++ c ++ blk.drop (r + m)) n)) := fun q =>
        ⟨⟨hl8, by simp [hcl]; omega, setRow_heap (wr.drewN q) _ _ _ _ _ hH.2.2⟩, ((Only.refl _ _).drewN q).setRow _⟩
      have HH2 := mkH hH2
      have HP := mkH (And.intro (step_full al c blk hl64 hblk) (step_part al c blk hl64 hblk))
      rw [hr, hcl, hsL] at HP
      have HAL : Hid (all ++ bs.take (k + m) = al ++ c) := by unfold Hid; rw [hct, ← List.append_assoc, hal]
      have HTw := mkH (tbOnly hT hO.out hb0)
      have HNL : Hid (al.length = n) := hnl
      have HR : Hid (n % 64 = r) := by unfold Hid; omega
      have HCL : Hid (c.length = m) := hcl
      have hok := Dp.blks_ok Dp.init_ok al (al.length / 64)
      rw [hsL] at hok
      have HOK := mkH hok
      have HN2 : Hid (n2 - m = (bs.drop (k + m)).length) := by unfold Hid; rw [List.length_drop]; have := hn2.out; rw [List.length_drop] at this; omega
      have HALL : Hid (n = all.length + k) := by unfold Hid; omega
      obtain ⟨C2, hC2⟩ : ∃ C2, hc sL.list (blk.take r ++ c ++ blk.drop (r + m)) n = C2 := ⟨_, rfl⟩
      rw [hC2] at hcp HH2
      obtain ⟨blk2, hbk2⟩ : ∃ x, blk.take r ++ c ++ blk.drop (r + m) = x := ⟨_, rfl⟩
      rw [hbk2] at HP HH2
      have HBL : Hid (blk2.length = 64) := by unfold Hid; rw [← hbk2]; simp [hcl]; omega
      have nb : n ≤ 100000 := by omega
      have mb : m ≤ 64 := by omega
      clear hC2 hct hcd hcl hm hR' hR hH hH2 hl8 hl64 hblk hSS hal hall hr hnl hn2 hbk2 hT hok hsL
      go_wp2_with fail
      go_region_held3 (fun w' => w'.cell? ⟨b, 73, none⟩ = some (.int .i64 (n : Int))) (first | go_keep | exact hSize (HH2.out _).1) (first
        | (refine atCopy (.tmp 20) (.tmp 21) 41 41 ?_ ?_; rfl; refine step_copy (by rfl) (.tmp 20) (.tmp 21) 41 41 (by rfl) (.slice (some ⟨b, 9 + r, none⟩) (64 - r) (64 - r)) (.slice ao2 n2 cap2) _ _ (by rfl) (by rfl) (hcp _ _) ?_))
      obtain ⟨h2, ho2⟩ := HH2.out 1
      generalize (wr.drewN 1).setRow b C2 = W2 at h2 ho2 ⊢
      obtain ⟨p, hp⟩ : ∃ p, n + m = p := ⟨_, rfl⟩
      have ep : (n : Int) + (m : Int) = (p : Int) := by omega
      have pb : p ≤ 200000 := by omega
      have hsz2 := hSize h2
      have hfr2 := hFree h2
      obtain ⟨h3, ho3⟩ := hSetN h2 p
      have HO3 := mkH (ho2.trans ho3)
      have H3 := mkH h3
      have hp64 : p % 64 = (r + m) % 64 := by have := HR.out; omega
      have HPP : Hid (n + m = p) := hp
      clear hcp HH2 h2 ho2 h3 ho3 hp
      by_cases hfull : r + m = 64
      · have tm2 : (p : Int).tmod 64 = 0 := by rw [Int.tmod_eq_emod_of_nonneg (by omega)]; omega
        go_wp2_with fail
        refine (takeBlock_any _ b sL blk2 p HOK.out (tbOnly HTw.out HO3.out hb0) hb0 H3.out).mono ?_
        rintro e W4 ⟨⟨v4, rfl⟩, h4, ho4⟩
        have HO4 := mkH (HO3.out.trans ho4)
        have H4 := mkH h4
        clear h4 ho4
        go_wp2_with fail
        refine ⟨⟨k + m, aq, cap2 - m, n2 - m, hkm, rfl, HN2, by omega, by omega, HRq.out _ HO4.out, ?_, hO.out.trans HO4.out⟩, by show n2 - m < n2; omega⟩
        have hlen : (al ++ c).length = p := by rw [List.length_append, HNL.out, HCL.out, HPP.out]
        obtain ⟨f1, f2⟩ := HP.out.1 hfull
        unfold Hid
        rw [HAL.out]
        refine ⟨blk2, ?_, ?_⟩
        · rw [f2, List.take_zero, List.drop_eq_nil_of_le (by omega)]
        · rw [f1, hlen]; exact H4.out
      · have tm2 : (p : Int).tmod 64 = ((r + m : Nat) : Int) := by rw [Int.tmod_eq_emod_of_nonneg (by omega)]; omega
        have t3 : ((((r + m : Nat) : Int)) == 0) = false := by simp; omega
        go_wp2_with fail
        refine ⟨⟨k + m, aq, cap2 - m, n2 - m, hkm, rfl, HN2, by omega, by omega, HRq.out _ HO3.out, ?_, hO.out.trans HO3.out⟩, by show n2 - m < n2; omega⟩
        have hlen : (al ++ c).length = p := by rw [List.length_append, HNL.out, HCL.out, HPP.out]
        obtain ⟨f1, f2⟩ := HP.out.2 (by omega)
        unfold Hid
        rw [HAL.out]
        refine ⟨blk2, f2, ?_⟩
        rw [f1, hlen]; exact H3.out
end Go.Proofs.YtgbbajeeelgbhaaGreatDoor.Df

namespace Go.Proofs.YtgbbajeeelgbhaaGreatDoor.Dp
set_option maxRecDepth 100000 in
theorem dig_abc : (dig [97, 98, 99]).take 16 = [186, 120, 22, 191, 143, 1, 207, 234, 65, 65, 64, 222, 93, 174, 34, 35] := by decide +kernel
end Go.Proofs.YtgbbajeeelgbhaaGreatDoor.Dp

namespace Go.Proofs.YtgbbajeeelgbhaaGreatDoor.Dg
open Go.RowKit Kt Dk Dw Ds Dt De Df
set_option linter.unusedVariables false
set_option maxRecDepth 20000

theorem hs_made {w : World} {b : Nat} {all : List UInt8} (h : Hs w b all) : w.cell? ⟨b, 0, none⟩ = some (.bool true) := by obtain ⟨_, _, h⟩ := h; exact hMade h
theorem hs_size {w : World} {b : Nat} {all : List UInt8} (h : Hs w b all) : w.cell? ⟨b, 73, none⟩ = some (.int .i64 (all.length : Int)) := by obtain ⟨_, _, h⟩ := h; exact hSize h
theorem hs_lt {w : World} {b : Nat} {all : List UInt8} (h : Hs w b all) : b < w.heap.size := by obtain ⟨_, _, h⟩ := h; exact hLt h
theorem hs_block {w w' : World} {b : Nat} {all : List UInt8} (h : Hs w b all) (e : w'.heap[b]? = w.heap[b]?) : Hs w' b all := by
  obtain ⟨blk, h1, h2, h3, h4⟩ := h
  exact ⟨blk, h1, h2, h3, by rw [e]; exact h4⟩
theorem hs_below {w w' : World} {b B : Nat} {all : List UInt8} (h : Hs w b all) (hb : Below B w w') (hB : b < B) : Hs w' b all := hs_block h (hb.block b hB)
theorem hs_only {w w' : World} {b c : Nat} {all : List UInt8} (h : Hs w b all) (hb : Only c w w') (hc : b ≠ c) : Hs w' b all := hs_block h (hb.heap (hs_lt h) hc)

theorem wpList_build {P : Program} {w : World} {ops : Array Oper} {rest : List Oper} {o : Oper} {a : Act} {Q : Exit → Act → World → Prop} (hgd : o.guard = none) (ty : TypeId) (ps : Array (Nat × Operand)) (ho : o.op = .build ty ps) (parts : Array (Nat × Value)) (hp : (ps.map fun p => (p.1, a.eval p.2)) = parts) (v : Value) (hr : (Instr.build ty parts).run P w = .ok v w)
    (h : wpList P ops Q rest (a.put o.dst v) w) : wpList P ops Q (o :: rest) a w := by
  refine wpList_plain hgd fun _ hK => ?_
  unfold Oper.wp execOp
  simp only [ho]
  rw [show (ps.map fun x => (x.1, a.eval x.2)) = parts from hp]
  simp only [Sem.run_bind, Sem.run_pure, hr, Result.andThen_ok]
  exact hK _ _ h
theorem build_new (W : World) : (Instr.build 460 #[(0, .bool true), (1, .agg #[.int .u32 1779033703, .int .u32 3144134277, .int .u32 1013904242, .int .u32 2773480762, .int .u32 1359893119, .int .u32 2600822924, .int .u32 528734635, .int .u32 1541459225])]).run Tryz.prog W = .ok (.agg (hc Dp.init.list (List.replicate 64 0) 0)) W := by kernel_rfl

set_option maxHeartbeats 2000000 in
theorem new_any (w : World) : Calls Tryz.prog 387 #[] w fun e w' => e = .returned (.pointer (some ⟨w.heap.size, 0, none⟩)) ∧ Hs w' w.heap.size [] ∧ Below w.heap.size w w' := by
  go_enter Tryz.func387, Tryz.ntmps387
  have hbn := build_new
  generalize hC : hc Dp.init.list (List.replicate 64 0) 0 = C at hbn
  have HC : Hid (hc Dp.init.list (List.replicate 64 0) 0 = C) := hC
  clear hC
  go_wp2_with (refine wpList_build rfl 460 #[(0, .const (.bool true)), (1, .tmp 1)] rfl #[(0, .bool true), (1, .agg #[.int .u32 1779033703, .int .u32 3144134277, .int .u32 1013904242, .int .u32 2773480762, .int .u32 1359893119, .int .u32 2600822924, .int .u32 528734635, .int .u32 1541459225])] (by simp [Act.eval]) (.agg C) (hbn _) ?_)
  go_ret
  refine ⟨rfl, ⟨List.replicate 64 0, rfl, rfl, rfl, ?_⟩, (Below.refl _ w).alloc (Nat.le_refl _) _⟩
  show _ = some (Obj.cells (hc Dp.init.list (List.replicate 64 0) 0) 460 (0, 0))
  rw [HC.out]
  exact heap_alloc_new _ _
end Go.Proofs.YtgbbajeeelgbhaaGreatDoor.Dg

namespace Go.Proofs.YtgbbajeeelgbhaaGreatDoor.Dh
open Go.RowKit Kt Dk Dw Ds Dt De Df Dg
set_option linter.unusedVariables false
set_option maxRecDepth 20000

/-- The first cells are these bytes. -/
def Pu (C : Array Value) (l : List UInt8) : Prop := C.size = 32 ∧ C.toList.take l.length = U l
theorem Pu.next {C : Array Value} {l : List UInt8} (h : Pu C l) (new : List UInt8) (hl : l.length + new.length ≤ 32) : Pu (splice C l.length (U new)) (l ++ new) := by
  obtain ⟨h1, h2⟩ := h
  refine ⟨by rw [splice_size (by rw [U_length]; omega), h1], ?_⟩
  unfold splice
  rw [h2]
  have e : (l ++ new).length = (U l ++ U new).length := by simp [U_length]
  rw [e, List.take_left, U_append]
theorem Pu.all {C : Array Value} {l : List UInt8} (h : Pu C l) (hl : l.length = 32) : C = (U l).toArray := by
  obtain ⟨h1, h2⟩ := h
  rw [List.take_of_length_le (by simp; omega)] at h2
  rw [← h2]
def wb (l : List Nat) (k : Nat) : List UInt8 := ((l.take k).map Dp.bytes4).flatten
theorem wb_succ (l : List Nat) (k : Nat) (hk : k < l.length) : wb l (k + 1) = wb l k ++ Dp.bytes4 (l.getD k 0) := by
  unfold wb
  rw [List.take_succ_eq_append_getElem hk, List.map_append, List.flatten_append]
  simp only [List.map_cons, List.map_nil, List.flatten_cons, List.flatten_nil, List.append_nil, List.getD, List.getElem?_eq_getElem hk, Option.getD_some]
theorem wb_length (l : List Nat) : ∀ k, k ≤ l.length → (wb l k).length = 4 * k
  | 0, _ => rfl
  | k + 1, hk => by rw [wb_succ l k (by omega), List.length_append, wb_length l k (by omega), Dp.bytes4_length]; omega

/-- Where Sum stands: the result's block, the copy's words and the bytes so far. -/
def Su (w W : World) (G : Nat) (l : List Nat) (k : Nat) : Prop :=
  Below w.heap.size w W ∧ (∃ Z : Array Value, Z.size = 32 ∧ W.heap[w.heap.size]? = some (.cells Z 430 (0, 0))) ∧ ∃ C : Array Value, Pu C (wb l k) ∧ W.heap[G]? = some (.cells C 430 (0, 0))

set_option maxHeartbeats 4000000 in
theorem sum_any (w : World) (b : Nat) (all : List UInt8) (hT : Tb w) (hS : Hs w b all) (hn : all.length ≤ 100000) :
    Calls Tryz.prog 389 #[.pointer (some ⟨b, 0, none⟩)] w fun e w' => e = .returned (.agg (U (Dp.dig all)).toArray) ∧ Below w.heap.size w w' := by
  have hlt := hs_lt hS
  have hT0 := hT.size
  have hS0 := hS
  obtain ⟨blk, hb1, hb2, hb3, hb4⟩ := hS0
  have hsz := hc_size (n := all.length) hb2 hb3
  have hone := hc_one (n := all.length) hb2 hb3
  obtain ⟨C, hC⟩ : ∃ C : List Value, C = (hc (Dp.blks Dp.init all (all.length / 64)).list blk all.length).toList := ⟨_, rfl⟩
  have hCa : hc (Dp.blks Dp.init all (all.length / 64)).list blk all.length = C.toArray := by rw [hC]
  rw [← hC] at hone
  have hCl : C.length = 74 := by rw [hC]; simpa using hsz
  have hi : (Tryz.prog.info? 460).map (·.size) = some C.length := by rw [hCl]; kernel_rfl
  have HX : Hid (∀ (w' : World) (g : Nat), w'.heap[g]? = some (.cells C.toArray 460 (0, 0)) → H w' g (Dp.blks Dp.init all (all.length / 64)).list blk all.length 460) := fun w' g h => ⟨hb2, hb3, by rw [h, hCa]⟩
  rw [hCa] at hb4
  have HI := mkH hi
  have HL := mkH hCl
  have HB1 := mkH hb1
  have HONE := mkH hone
  have HTB := mkH hT
  have HN := mkH hn
  have HS := mkH hS
  clear hCa hC hb1 hb2 hb3 hsz hi hCl hone hT hn hS
  go_enter Tryz.func389, Tryz.ntmps389
  go_wp2_with (refine wpList_alloc_agg rfl 430 rfl 32 (by kernel_rfl) ?_; intro Z hZ)
  have hbel : Below w.heap.size w (w.alloc (.cells Z 430)) := (Below.refl _ w).alloc (Nat.le_refl _) _
  refine (isMade_any _ b (hs_made (hs_below HS.out hbel hlt))).mono ?_
  rintro e w1 ⟨rfl, hw1⟩
  subst hw1
  have hb4' : (w.alloc (.cells Z 430)).heap[b]? = some (.cells C.toArray 460 (0, 0)) := by rw [hbel.block b hlt]; exact hb4
  clear hb4 HS
  go_wp2_with (first
    | (refine wpList_load_agg rfl 460 (.tmp 12) rfl _ Tryz.underlying460 rfl b 0 rfl C HI.out ?hc ?_; (case hc => intro j v hv; rw [Nat.zero_add, cell_of_row _ _ _ _ _ _ hb4']; simpa using hv))
    | (refine wpList_alloc_agg rfl 460 rfl 74 (by kernel_rfl) ?_; intro Z2 hZ2)
    | (refine wpList_store_new rfl 460 (.tmp 3) (.tmp 13) rfl (w.alloc (.cells Z 430)) Z2 rfl C rfl HI.out (by rw [hZ2, HL.out]) HONE.out ?_))
  have hW2 : ((w.alloc (.cells Z 430)).alloc (.cells C.toArray 460)).heap[w.heap.size + 1]? = some (.cells C.toArray 460 (0, 0)) := by
    have := heap_alloc_new (w.alloc (.cells Z 430)) (.cells C.toArray 460)
    rwa [World.size_alloc] at this
  have hR2 : ((w.alloc (.cells Z 430)).alloc (.cells C.toArray 460)).heap[w.heap.size]? = some (.cells Z 430 (0, 0)) := by
    rw [Below.heap_alloc _ _ _ (by simp)]; exact heap_alloc_new _ _
  have hbel2 : Below w.heap.size w ((w.alloc (.cells Z 430)).alloc (.cells C.toArray 460)) := hbel.alloc (by simp) _
  have hs2 : ((w.alloc (.cells Z 430)).alloc (.cells C.toArray 460)).heap.size = w.heap.size + 2 := by simp
  clear hb4' hbel
  generalize (w.alloc (.cells Z 430)).alloc (.cells C.toArray 460) = W2 at hW2 hR2 hbel2 hs2 ⊢
  refine (end_any W2 (w.heap.size + 1) all blk (HTB.out.below hbel2 hT0) (by omega) HN.out HB1.out (HX.out _ _ hW2)).mono ?_
  rintro e W3 ⟨⟨v, rfl⟩, ⟨blk', h3⟩, ho3⟩
  have hR3 : W3.heap[w.heap.size]? = some (.cells Z 430 (0, 0)) := by rw [ho3.heap (by omega) (by omega)]; exact hR2
  have hb3 : Below w.heap.size w W3 := hbel2.trans (ho3.below (by omega) (by omega))
  have hs3 := ho3.size
  have hL3 := hLt h3
  clear hW2 hR2 hbel2 ho3 HX HB1
  have hi8 : (Tryz.prog.info? 457).map (·.size) = some (W32 (Dp.fin all).list).length := by kernel_rfl
  have hok : ∀ x ∈ (Dp.fin all).list, x < 4294967296 := Dp.fin_ok all
  have H3 := mkH h3
  have HD : Hid (Dp.dig all = wb (Dp.fin all).list 8) := rfl
  have hll : (Dp.fin all).list.length = 8 := rfl
  clear h3
  generalize (Dp.fin all).list = l at hi8 H3 HD hll hok
  go_wp2_with (first
    | (refine wpList_alloc_agg rfl 430 rfl 32 (by kernel_rfl) ?_; intro Z3 hZ3)
    | (refine wpList_load_agg rfl 457 (.tmp 15) rfl _ Tryz.underlying457 rfl (w.heap.size + 1) 1 rfl (W32 l) hi8 ?hc ?_; (case hc => intro j v hv; obtain ⟨hj, rfl⟩ := W32_get _ _ _ hv; have e1 := Below.heap_alloc W3 (.cells Z3 430) (w.heap.size + 1) hL3; rw [H3.out.2.2] at e1; rw [cell_of_row _ _ _ _ _ _ e1]; exact hc_word H3.out.1 H3.out.2.1 j (by omega))))
  have hSu : Su w (W3.alloc (.cells Z3 430)) W3.heap.size l 0 :=
    ⟨hb3.alloc hb3.size _, ⟨Z, hZ, by rw [Below.heap_alloc _ _ _ (by omega)]; exact hR3⟩, Z3, ⟨hZ3, rfl⟩, heap_alloc_new _ _⟩
  have HG : Hid (w.heap.size < W3.heap.size) := by unfold Hid; omega
  have HU := mkH hok
  have HLL := mkH hll
  have HIX := mkH (fun (j : Nat) (hj : j < 8) => run_index_agg (P := Tryz.prog) 457 318 8 Tryz.underlying457 _ Tryz.underlying318 rfl (by kernel_rfl) (W32 l) j hj _ (W32_at l j (by rw [hll]; exact hj)))
  generalize W3.alloc (.cells Z3 430) = W4 at hSu ⊢
  generalize W3.heap.size = G at hSu HG ⊢
  clear hZ3 hR3 hb3 hs3 hL3 hi8 H3 hok hll HI HL HONE hZ hZ2 hs2
  go_loopw [17] (fun i W => ∃ k : Nat, k ≤ 8 ∧ i = .int .i64 k ∧ Su w W G l k) (fun i _ => 8 - (intOf i).toNat)
  case atStart => exact ⟨0, by omega, rfl, hSu⟩
  case round =>
    clear hSu
    obtain ⟨k, hk, rfl, hSu⟩ := hrel
    by_cases hlt8 : k = 8
    · have t0 : decide ((k : Int) < 8) = false := by simp; omega
      subst hlt8
      obtain ⟨hb, ⟨Zr, hZr, hzr⟩, Cr, hp, hcr⟩ := hSu
      have hCe := hp.all (wb_length l 8 (by rw [HLL.out]; omega))
      rw [← HD.out] at hCe
      have hdl : (U (Dp.dig all)).length = 32 := by rw [U_length, Dp.dig_length]
      have hi32 : (Tryz.prog.info? 430).map (·.size) = some (U (Dp.dig all)).length := by rw [hdl]; kernel_rfl
      have hZ32 : Zr.size = (U (Dp.dig all)).length := by rw [hdl, hZr]
      subst hCe
      clear hp hdl
      go_wp2_with (first
        | (refine wpList_load_agg rfl 430 (.tmp 4) rfl _ Tryz.underlying430 rfl G 0 rfl (U (Dp.dig all)) hi32 ?hc ?_; (case hc => intro j v hv; rw [cell_of_row _ _ _ _ _ _ hcr]; simpa using hv))
        | (refine wpList_store_agg rfl 430 (.tmp 2) (.tmp 27) rfl w.heap.size rfl (U (Dp.dig all)) rfl _ Zr hzr hi32 hZ32 (U_one _) ?_))
      refine ret_cell 2 430 rfl w.heap.size rfl _ Tryz.underlying430 rfl (U (Dp.dig all)) hi32 _ _ (setRow_heap _ _ _ _ _ _ hzr) rfl ⟨rfl, below_setRow hb (Nat.le_refl _) _⟩
    · have t0 : decide ((k : Int) < 8) = true := by simp; omega
      have hk0 : (k : Int) < 8 := by omega
      have hk1 : k < 8 := by omega
      obtain ⟨hb, ⟨Zr, hZr, hzr⟩, Cr, hp, hcr⟩ := hSu
      have hix := HIX.out k hk1
      have hsl := fun W => run_arr_low (P := Tryz.prog) W 430 5 32 Tryz.underlying430 (by kernel_rfl) G 0 (4 * k) (4 * (k : Int)) (by omega) (by omega)
      simp only [Nat.zero_add] at hsl
      have hx := Dp.getD_lt HU.out k
      have hwl := wb_length l k (by rw [HLL.out]; omega)
      have hnx := hp.next (Dp.bytes4 (l.getD k 0)) (by rw [hwl, Dp.bytes4_length]; omega)
      rw [← wb_succ l k (by rw [HLL.out]; omega), hwl] at hnx
      have HNX : Hid (Su w (wr.setRow G (splice Cr (4 * k) (U (Dp.bytes4 (l.getD k 0))))) G l (k + 1)) := by
        have hgg := HG.out
        exact ⟨below_setRow hb (by omega) _, ⟨Zr, hZr, by rw [setRow_other _ _ _ _ (by omega)]; exact hzr⟩, _, hnx, setRow_heap _ _ _ _ _ _ hcr⟩
      have hcs := hp.1
      clear hb hzr hZr hp hnx hwl
      generalize l.getD k 0 = X at hix hx HNX
      generalize (W32 l).toArray = wl at hix ⊢
      go_wp2_with fail
      refine (putWord_any wr G (4 * k) _ _ X Cr _ hcr (by omega) (by omega) (by omega) hx).mono ?_
      rintro e W5 ⟨⟨v5, rfl⟩, rfl⟩
      clear hsl hix hcr
      generalize wr.setRow G (splice Cr (4 * k) (U (Dp.bytes4 X))) = W6 at HNX ⊢
      go_wp2_with fail
      refine ⟨?rel, ?measure⟩
      case rel => exact ⟨k + 1, by omega, by go_num, HNX.out⟩
      case measure => simp [intOf]; omega

set_option maxHeartbeats 2000000 in
theorem of_any (w : World) (ao : Option Addr) (cap : Nat) (bs : List UInt8) (hT : Tb w) (hr : Row w ao bs) (hao : ∀ a, ao = some a → a.block < w.heap.size) (hn : bs.length ≤ 100000) (hc : bs.length ≤ cap) (hc2 : cap ≤ 9223372036854775807) :
    Calls Tryz.prog 360 #[.slice ao bs.length cap] w fun e w' => e = .returned (.agg (U (Dp.dig bs)).toArray) ∧ Below w.heap.size w w' := by
  have hT0 := hT.size
  have hdl : (U (Dp.dig bs)).length = 32 := by rw [U_length, Dp.dig_length]
  have hi32 : (Tryz.prog.info? 430).map (·.size) = some (U (Dp.dig bs)).length := by rw [hdl]; kernel_rfl
  have HI := mkH hi32
  have HDL := mkH hdl
  clear hi32 hdl
  go_enter Tryz.func360, Tryz.ntmps360
  go_wp2_with (refine wpList_alloc_agg rfl 430 rfl 32 (by kernel_rfl) ?_; intro Z hZ)
  have hb1 : Below w.heap.size w (w.alloc (.cells Z 430)) := (Below.refl _ w).alloc (Nat.le_refl _) _
  have hz1 : (w.alloc (.cells Z 430)).heap[w.heap.size]? = some (.cells Z 430 (0, 0)) := heap_alloc_new _ _
  have hs1 : (w.alloc (.cells Z 430)).heap.size = w.heap.size + 1 := by simp
  generalize w.alloc (.cells Z 430) = w1 at hb1 hz1 hs1 ⊢
  refine (new_any w1).mono ?_
  rintro e w2 ⟨rfl, h2, hb2⟩
  have hlt2 := hs_lt h2
  have hz2 := hb2.block w.heap.size (by omega)
  rw [hz1] at hz2
  have hB2 : Below w.heap.size w w2 := hb1.trans (hb2.mono (by omega))
  obtain ⟨g, hg⟩ : ∃ g, w1.heap.size = g := ⟨_, rfl⟩
  rw [hg] at h2 hlt2 ⊢
  have hgw : w.heap.size < g := by omega
  clear hb1 hb2 hz1 hs1 hg
  go_wp2_with fail
  refine (write_any w2 g [] ao cap bs (hT.below hB2 hT0) (by omega) h2 ⟨?hrow, ?hne⟩ (by simpa using hn) hc hc2).mono ?_
  case hrow => exact hr.below hB2
  case hne => intro a ha; have := hao a ha; omega
  rintro e w3 ⟨rfl, h3, ho3⟩
  rw [List.nil_append] at h3
  have hz3 : w3.heap[w.heap.size]? = some (.cells Z 430 (0, 0)) := by rw [ho3.heap (by omega) (by omega)]; exact hz2
  have hB3 : Below w.heap.size w w3 := hB2.trans (ho3.below (by omega) hB2.size)
  clear h2 hlt2 hB2 ho3 hz2
  go_wp2_with fail
  refine (sum_any w3 g bs (hT.below hB3 hT0) h3 hn).mono ?_
  rintro e w4 ⟨rfl, hb4⟩
  have hz4 : w4.heap[w.heap.size]? = some (.cells Z 430 (0, 0)) := by rw [hb4.block _ (block_lt hz3)]; exact hz3
  have hB4 : Below w.heap.size w w4 := hB3.trans (hb4.mono hB3.size)
  clear h3 hB3 hb4 hz3
  go_wp2_with (refine wpList_store_agg rfl 430 (.tmp 2) (.tmp 9) rfl w.heap.size rfl (U (Dp.dig bs)) rfl _ Z hz4 HI.out (by rw [HDL.out, hZ]) (U_one _) ?_)
  refine ret_cell 2 430 rfl w.heap.size rfl _ Tryz.underlying430 rfl (U (Dp.dig bs)) HI.out _ _ (setRow_heap _ _ _ _ _ _ hz4) rfl ⟨rfl, below_setRow hB4 (Nat.le_refl _) _⟩
end Go.Proofs.YtgbbajeeelgbhaaGreatDoor.Dh

namespace Go.Proofs.YtgbbajeeelgbhaaGreatDoor.Di
open Go.RowKit Kt Dk Dw Ds Dt De Df Dg Dh
set_option linter.unusedVariables false
set_option maxRecDepth 20000

def hx : List UInt8 := [48, 49, 50, 51, 52, 53, 54, 55, 56, 57, 97, 98, 99, 100, 101, 102]
def two (x : UInt8) : List UInt8 := [hx.getD (x.toNat / 16) 0, hx.getD (x.toNat % 16) 0]
def tk (d : List UInt8) (k : Nat) : List UInt8 := ((d.take k).map two).flatten
def tok (bs : List UInt8) : List UInt8 := tk (Dp.dig bs) 16
theorem tk_succ (d : List UInt8) (k : Nat) (hk : k < d.length) : tk d (k + 1) = tk d k ++ two (d.getD k 0) := by
  unfold tk
  rw [List.take_succ_eq_append_getElem hk, List.map_append, List.flatten_append]
  simp only [List.map_cons, List.map_nil, List.flatten_cons, List.flatten_nil, List.append_nil, List.getD, List.getElem?_eq_getElem hk, Option.getD_some]
theorem tk_length (d : List UInt8) : ∀ k, k ≤ d.length → (tk d k).length = 2 * k
  | 0, _ => rfl
  | k + 1, hk => by rw [tk_succ d k (by omega), List.length_append, tk_length d k (by omega)]; simp [two]; omega
theorem tok_length (bs : List UInt8) : (tok bs).length = 32 := tk_length _ 16 (by rw [Dp.dig_length]; omega)
theorem hx_run (w : World) (q : Nat) (hq : q < 16) (i : Int) (hi : i = (q : Int)) : (Instr.index 9 (.string ⟨#[48, 49, 50, 51, 52, 53, 54, 55, 56, 57, 97, 98, 99, 100, 101, 102]⟩) (.int .u8 i)).run Tryz.prog w = .ok (.int .u8 ((hx.getD q 0).toNat : Int)) w := by
  subst hi
  obtain h | h | h | h | h | h | h | h | h | h | h | h | h | h | h | h : q = 0 ∨ q = 1 ∨ q = 2 ∨ q = 3 ∨ q = 4 ∨ q = 5 ∨ q = 6 ∨ q = 7 ∨ q = 8 ∨ q = 9 ∨ q = 10 ∨ q = 11 ∨ q = 12 ∨ q = 13 ∨ q = 14 ∨ q = 15 := by omega
  all_goals
    subst h
    simp [Instr.index, asIntOf, run_underlying Tryz.underlying9]
    rfl
theorem put2 (C : Array Value) (o : Nat) (v0 v1 : Value) (h : o + 2 ≤ C.size) : (C.setIfInBounds o v0).setIfInBounds (o + 1) v1 = splice C o [v0, v1] := by
  apply Array.ext_getElem?
  intro i
  simp only [splice, List.getElem?_toArray, Array.getElem?_setIfInBounds, Array.size_setIfInBounds, List.length_cons, List.length_nil]
  simp only [List.append_assoc, List.getElem?_append, List.length_take, Array.length_toList, List.length_cons, List.length_nil, show min o C.size = o by omega, List.getElem?_take, List.getElem?_drop, Array.getElem?_toList]
  by_cases h1 : i < o
  · simp [h1, show o + 1 ≠ i by omega, show o ≠ i by omega]
  · by_cases h2 : i < o + 2
    · obtain h | h : i = o ∨ i = o + 1 := by omega
      · subst h; simp [show i < C.size by omega]
      · subst h; simp [show o + 1 < C.size by omega, show ¬ (o + 1 < o) by omega]
    · simp [h1, show o + 1 ≠ i by omega, show o ≠ i by omega, show ¬ (i - o < 2) by omega, show o + 2 + (i - o - 2) = i by omega]

/-- Where Token stands: the digest's block, and the digits so far. -/
def To (w W : World) (A B : Nat) (d : List UInt8) (k : Nat) : Prop :=
  Below w.heap.size w W ∧ W.heap[A]? = some (.cells (U d).toArray 430 (0, 0)) ∧ ∃ C : Array Value, Pu C (tk d k) ∧ W.heap[B]? = some (.cells C 430 (0, 0))

theorem row_of_block {w : World} {b : Nat} {l : List UInt8} {T : TypeId} {fr : Nat × Nat} (h : w.heap[b]? = some (.cells (U l).toArray T fr)) : Row w (some ⟨b, 0, none⟩) l := by
  intro _
  refine ⟨b, 0, rfl, fun i hi => ?_⟩
  rw [Nat.zero_add, cell_of_row _ _ _ _ _ _ h, List.getElem?_toArray, U_at l i hi]

set_option maxHeartbeats 4000000 in
theorem token_any (w : World) (ao : Option Addr) (cap : Nat) (bs : List UInt8) (hT : Tb w) (hr : Row w ao bs) (hao : ∀ a, ao = some a → a.block < w.heap.size) (hn : bs.length ≤ 100000) (hc : bs.length ≤ cap) (hc2 : cap ≤ 9223372036854775807) :
    Calls Tryz.prog 322 #[.slice ao bs.length cap] w fun e w' => e = .returned (.string (S (tok bs))) ∧ Below w.heap.size w w' := by
  have HOF := mkH (of_any w ao cap bs hT hr hao hn hc hc2)
  have hdl : (U (Dp.dig bs)).length = 32 := by rw [U_length, Dp.dig_length]
  have hi32 : (Tryz.prog.info? 430).map (·.size) = some (U (Dp.dig bs)).length := by rw [hdl]; kernel_rfl
  have HI := mkH hi32
  have HDL := mkH hdl
  clear hi32 hdl hT hr hao
  go_enter Tryz.func322, Tryz.ntmps322
  go_wp2_with fail
  refine HOF.out.mono ?_
  rintro e w1 ⟨rfl, hb1⟩
  clear HOF
  have hh := fun W b => run_arr_high (P := Tryz.prog) W 430 5 32 Tryz.underlying430 (by kernel_rfl) (by decide) b 0 16 16 rfl (by decide)
  go_wp2_with (first
    | (have hx := hZ; clear hx; refine wpList_alloc_agg rfl 430 rfl 32 (by kernel_rfl) ?_; intro Z2 hZ2)
    | (refine wpList_alloc_agg rfl 430 rfl 32 (by kernel_rfl) ?_; intro Z hZ)
    | (refine wpList_store_new rfl 430 (.tmp 3) (.tmp 8) rfl w1 Z rfl (U (Dp.dig bs)) rfl HI.out (by rw [hZ, HDL.out]) (U_one _) ?_))
  have hTo : To w ((w1.alloc (.cells (U (Dp.dig bs)).toArray 430)).alloc (.cells Z2 430)) w1.heap.size (w1.heap.size + 1) (Dp.dig bs) 0 := by
    refine ⟨(hb1.alloc hb1.size _).alloc (by have := hb1.size; simp; omega) _, ?_, Z2, ⟨hZ2, rfl⟩, ?_⟩
    · rw [Below.heap_alloc _ _ _ (by simp)]; exact heap_alloc_new _ _
    · have := heap_alloc_new (w1.alloc (.cells (U (Dp.dig bs)).toArray 430)) (.cells Z2 430)
      rwa [World.size_alloc] at this
  have hwA := hb1.size
  generalize (w1.alloc (.cells (U (Dp.dig bs)).toArray 430)).alloc (.cells Z2 430) = W2 at hTo ⊢
  generalize w1.heap.size = A at hTo hwA ⊢
  have HTK : Hid (tok bs = tk (Dp.dig bs) 16) := rfl
  have hdl : (Dp.dig bs).length = 32 := Dp.dig_length bs
  have HLD := mkH hdl
  clear hh hb1 hZ hZ2 HI HDL hdl
  generalize Dp.dig bs = d at hTo HTK HLD ⊢
  go_loopw [11] (fun i W => ∃ k : Nat, k ≤ 16 ∧ i = .int .i64 k ∧ To w W A (A + 1) d k) (fun i _ => 16 - (intOf i).toNat)
  case atStart => exact ⟨0, by omega, rfl, hTo⟩
  case round =>
    clear hTo
    obtain ⟨k, hk, rfl, hTo⟩ := hrel
    obtain ⟨hb, hA, Cr, hp, hB⟩ := hTo
    by_cases hlt : k = 16
    · have t0 : decide ((k : Int) < 16) = false := by simp; omega
      subst hlt
      have hCe := hp.all (tk_length d 16 (by rw [HLD.out]; omega))
      subst hCe
      have hst := run_string (P := Tryz.prog) (w := wr) (src := 41) (dst := 9) (e := 5) Tryz.underlying41 Tryz.underlying5 Tryz.underlying9 (row_of_block hB) 32
      rw [tk_length d 16 (by rw [HLD.out]; omega)] at hst
      have hal := run_arr_all (P := Tryz.prog) wr 430 5 32 Tryz.underlying430 (by kernel_rfl) (by decide) (A + 1) 0
      have HB := mkH hb
      clear hp hA hB hb
      go_wp2
      go_ret
      rw [HTK.out]
      exact ⟨rfl, HB.out⟩
    · have t0 : decide ((k : Int) < 16) = true := by simp; omega
      have hk0 : (k : Int) < 16 := by omega
      have hk1 : k < 16 := by omega
      have cA : wr.cell? ⟨A, k, none⟩ = some (.int .u8 ((d.getD k 0).toNat : Int)) := by
        rw [cell_of_row _ _ _ _ _ _ hA, List.getElem?_toArray, U_at d k (by rw [HLD.out]; omega)]
      have hCs := hp.1
      obtain ⟨v0, c0⟩ : ∃ v, wr.cell? ⟨A + 1, 2 * k, none⟩ = some v := ⟨_, by rw [cell_of_row _ _ _ _ _ _ hB]; exact Array.getElem?_eq_getElem (by omega)⟩
      obtain ⟨v1, c1⟩ : ∃ v, wr.cell? ⟨A + 1, 2 * k + 1, none⟩ = some v := ⟨_, by rw [cell_of_row _ _ _ _ _ _ hB]; exact Array.getElem?_eq_getElem (by omega)⟩
      have hf : ∀ j, wr.frozen? ⟨A + 1, j, none⟩ = false := fun j => by simp [World.frozen?, hB]
      have hwl := tk_length d k (by rw [HLD.out]; omega)
      have hnx := hp.next (two (d.getD k 0)) (by rw [hwl]; simp [two]; omega)
      rw [← tk_succ d k (by rw [HLD.out]; omega), hwl] at hnx
      have HNX : Hid (To w ((wr.setCell ⟨A + 1, 2 * k, none⟩ (.int .u8 ((hx.getD ((d.getD k 0).toNat / 16) 0).toNat : Int))).setCell ⟨A + 1, 2 * k + 1, none⟩ (.int .u8 ((hx.getD ((d.getD k 0).toNat % 16) 0).toNat : Int))) A (A + 1) d (k + 1)) := by
        unfold Hid
        rw [setCell_eq_setRow wr (A + 1) (2 * k) Cr _ (0, 0) _ hB, setCell_eq_setRow _ (A + 1) (2 * k + 1) _ _ (0, 0) _ (setRow_heap wr (A + 1) Cr _ _ (0, 0) hB), setRow_setRow, put2 Cr (2 * k) _ _ (by omega)]
        exact ⟨below_setRow hb (by omega) _, by rw [setRow_other _ _ _ _ (by omega)]; exact hA, _, hnx, setRow_heap _ _ _ _ _ _ hB⟩
      have hxl := (d.getD k 0).toNat_lt
      generalize (d.getD k 0).toNat = x at cA HNX hxl
      have h1 := fun W => hx_run W (x / 16) (by omega) ((x : Int) / 16) (by omega)
      have h2 := fun W => hx_run W (x % 16) (by omega) ((x : Int) % 16) (by omega)
      have hl1 := (hx.getD (x / 16) 0).toNat_lt
      have hl2 := (hx.getD (x % 16) 0).toNat_lt
      generalize (hx.getD (x / 16) 0).toNat = X1 at h1 HNX hl1
      generalize (hx.getD (x % 16) 0).toNat = X2 at h2 HNX hl2
      clear hp hA hB hb hnx hwl
      go_wp2_with fail
      refine ⟨?rel, ?measure⟩
      case rel => exact ⟨k + 1, by omega, by go_num, HNX.out⟩
      case measure => simp [intOf]; omega

theorem cell_new_atF (W : World) (cs : Array Value) (t : TypeId) (fr : Nat × Nat) (j : Nat) (v : Value) (h : cs[j]? = some v) : (W.alloc (.cells cs t fr)).cell? ⟨W.heap.size, j, none⟩ = some v := by
  have h1 := heap_alloc_new W (.cells cs t fr)
  simp only [World.cell?, h1]; exact h
theorem row_newF (W : World) (cs : Array Value) (t : TypeId) (fr : Nat × Nat) (bs : List UInt8) (h : cs = (U bs).toArray) : Row (W.alloc (.cells cs t fr)) (some ⟨W.heap.size, 0, none⟩) bs := by
  intro _
  refine ⟨_, 0, rfl, fun i hi => ?_⟩
  rw [Nat.zero_add]
  refine cell_new_atF W cs t fr i _ ?_
  rw [h]
  have := U_at bs i hi
  simpa using this

theorem tok_abc : tok [97, 98, 99] = [98, 97, 55, 56, 49, 54, 98, 102, 56, 102, 48, 49, 99, 102, 101, 97, 52, 49, 52, 49, 52, 48, 100, 101, 53, 100, 97, 101, 50, 50, 50, 51] := by
  unfold tok tk
  rw [Dp.dig_abc]
  decide
end Go.Proofs.YtgbbajeeelgbhaaGreatDoor.Di

namespace Go.Proofs.YtgbbajeeelgbhaaGreatDoor.Gc
open Go.RowKit Kt Gf Gp Gr Gk Ga Gs Gb
set_option linter.unusedVariables false
set_option linter.unusedSimpArgs false
set_option maxRecDepth 20000

set_option maxHeartbeats 2000000 in
theorem enter_any (w : World) (B O : Nat) (nx : Int) (kp : List K) (ka : Option Addr) (kc : Nat) (msl asl : Value) (now frm : Int) (body : ByteArray)
    (hB : Bx w O #[.int .i64 nx, .slice ka kp.length kc, msl, asl] 126) (hO : w.ownsRow B 195 6 (.slice ka kp.length kc) kp.length (Fk kp)) (hBw : B ≤ w.heap.size) (hl : kp.length ≤ 1000000000) (hn : Sm nx) (kq : List K) (hkq : kp ++ [(⟨nx, now, 0, 0, frm, body⟩ : K)] = kq) :
    Calls Tryz.prog 326 #[.pointer (some ⟨O, 0, none⟩), .int .i64 now, .int .i64 frm, .string body] w fun e w' => e = .returned (.int .i64 nx) ∧ ∃ ka' kc', Bx w' O #[.int .i64 (nx + 1), .slice ka' kq.length kc', msl, asl] 126 ∧
      w'.ownsRow B 195 6 (.slice ka' kq.length kc') kq.length (Fk kq) ∧ Fr (fun k => k = O ∨ (Value.slice ka kp.length kc).ownBlock = some k) w w' := by
  obtain ⟨d0, d1, d2, d3, f0, f1, f2, f3⟩ := hB.four
  have hlt := hB.lt
  have hb1 : -9223372036854775808 ≤ nx + 1 := by unfold Sm at hn; omega
  have hb2 : nx + 1 ≤ 9223372036854775807 := by unfold Sm at hn; omega
  have hnewO : ¬ O = w.heap.size := by omega
  have hal : Below w.heap.size w (w.alloc (.cells #[.int .i64 nx, .int .i64 now, .int .i64 0, .int .i64 0, .int .i64 frm, .string body] 195)) := (Below.refl _ w).alloc (Nat.le_refl _) _
  have HS := mkH (newK w ⟨nx, now, 0, 0, frm, body⟩ 195)
  simp only [kC] at HS
  have HO := mkH (own_below hO hal)
  have HB := mkH (hB.bel hal)
  have HF := mkH (Fr.ofBelow (F := fun k => k = O ∨ (Value.slice ka kp.length kc).ownBlock = some k) hal)
  have HNE := mkH (fun k (hk : (Value.slice ka kp.length kc).ownBlock = some k) => own_ne hO hB hk (by decide))
  have HLT := mkH (fun k (hk : (Value.slice ka kp.length kc).ownBlock = some k) => (hO.lt k hk).2)
  have HSZ : Hid ((w.alloc (.cells #[.int .i64 nx, .int .i64 now, .int .i64 0, .int .i64 0, .int .i64 frm, .string body] 195)).heap.size = w.heap.size + 1) := by unfold Hid; simp
  have HKQ := mkH hkq
  clear hB hO hal hn hkq
  go_enter Tryz.func326, Tryz.ntmps326
  go_wp2_with (at_builtin; refine (wpList_append_own_src _ rfl (.tmp 18) (.tmp 24) 123 123 rfl B 195 _ 6 56 Tryz.underlying123 infoK rfl (by decide) _ kp.length (Fk kp) rfl HO.out _ 1 (Fk [⟨nx, now, 0, 0, frm, body⟩]) rfl HS.out ?h63 ?hby ?hbs ?_))
  case h63 => unfold maxLen; omega
  case hby => omega
  case hbs => have := HSZ.out; omega
  intro v2 w2 hown hgr
  rw [show Fk kp ++ Fk [⟨nx, now, 0, 0, frm, body⟩] = Fk (kp ++ [⟨nx, now, 0, 0, frm, body⟩]) from (Fl_append _ _).symm] at hown
  have hln : kp.length + 1 = kq.length := by rw [← HKQ.out]; simp
  rw [hln, HKQ.out] at hown
  obtain ⟨ka2, kc2, rfl⟩ := own_form hown
  have hf := fr_grown hgr
  have hB2 := HB.out.fr hf (fun hk => HNE.out O hk rfl)
  obtain ⟨d0, d1, d2, d3, f0, f1, f2, f3⟩ := hB2.four
  have HB2 := mkH hB2
  have HO2 := mkH hown
  have HNE2 := mkH (fun k (hk : (Value.slice ka2 kq.length kc2).ownBlock = some k) => own_ne hown hB2 hk (by decide))
  have HF2 := mkH (HF.out.trans hf (fun k hk => .inl (.inr hk)))
  clear hB2 hown hf hgr HB HO HF HS hln
  go_wp2
  go_ret
  have hB3 := HB2.out.s1 (.slice ka2 kq.length kc2)
  have hF3 := HB2.out.frset 1 (.slice ka2 kq.length kc2)
  have hO3 := own_fr HO2.out hF3 (fun k hk hk2 => HNE2.out k hk hk2)
  have hB4 := hB3.s0 (.int .i64 (nx + 1))
  have hF4 := hB3.frset 0 (.int .i64 (nx + 1))
  have hO4 := own_fr hO3 hF4 (fun k hk hk2 => HNE2.out k hk hk2)
  exact ⟨rfl, ka2, kc2, hB4, hO4, (HF2.out.trans hF3 (fun k hk => .inl (.inl hk))).trans hF4 (fun k hk => .inl (.inl hk))⟩
end Go.Proofs.YtgbbajeeelgbhaaGreatDoor.Gc
