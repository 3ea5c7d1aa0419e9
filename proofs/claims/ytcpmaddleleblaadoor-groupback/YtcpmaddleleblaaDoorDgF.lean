/-
  The contract of Write.
-/
import Derived.Test.YtcpmaddleleblaaDoorDgE
import Derived.Deep.RegionHeld3
import Derived.Deep.RegionLaw
namespace Go.Proofs.YtcpmaddleleblaaDoor.Df
open Go.RowKit Kt Dk Dw Ds Dt De
set_option linter.unusedVariables false
set_option maxRecDepth 20000

/-- Block b is a Hash that has these bytes. -/
def Hs (w : World) (b : Nat) (all : List UInt8) : Prop :=
  ∃ blk, blk.take (all.length % 64) = all.drop (64 * (all.length / 64)) ∧ H w b (Dp.blks Dp.init all (all.length / 64)).list blk all.length 146

/-- What becomes of a block as bytes come. -/
theorem step_full (all c blk : List UInt8) (hb : blk.length = 64) (hblk : blk.take (all.length % 64) = all.drop (64 * (all.length / 64))) (hc : all.length % 64 + c.length = 64) :
    Dp.blks Dp.init (all ++ c) ((all ++ c).length / 64) = Dp.comp (Dp.blks Dp.init all (all.length / 64)) (blk.take (all.length % 64) ++ c ++ blk.drop (all.length % 64 + c.length)) ∧ (all ++ c).length % 64 = 0 := by
  have hl : (all ++ c).length = 64 * (all.length / 64 + 1) := by rw [List.length_append]; omega
  refine ⟨?_, by omega⟩
  rw [hl, Nat.mul_div_cancel_left _ (by decide), Dp.blks, Dp.blks_append _ _ _ _ (by omega), List.drop_append_of_le_length (by omega), List.take_of_length_le (by rw [List.length_append, List.length_drop]; omega),
    hblk, List.drop_eq_nil_of_le (show blk.length ≤ all.length % 64 + c.length by omega), List.append_nil]
theorem step_part (all c blk : List UInt8) (hb : blk.length = 64) (hblk : blk.take (all.length % 64) = all.drop (64 * (all.length / 64))) (hc : all.length % 64 + c.length < 64) :
    Dp.blks Dp.init (all ++ c) ((all ++ c).length / 64) = Dp.blks Dp.init all (all.length / 64) ∧ (blk.take (all.length % 64) ++ c ++ blk.drop (all.length % 64 + c.length)).take ((all ++ c).length % 64) = (all ++ c).drop (64 * ((all ++ c).length / 64)) := by
  have hl : (all ++ c).length / 64 = all.length / 64 := by rw [List.length_append]; omega
  have hl2 : (all ++ c).length % 64 = all.length % 64 + c.length := by rw [List.length_append]; omega
  have h1 : (blk.take (all.length % 64) ++ c).length = all.length % 64 + c.length := by simp; omega
  refine ⟨by rw [hl]; exact Dp.blks_append _ _ _ _ (by omega), ?_⟩
  rw [hl, hl2, List.take_left' h1, List.drop_append_of_le_length (by omega), hblk]

/-- A guard: this step is a copy of these operands. -/
theorem atCopy {P : Program} {ops : Array Oper} {o : Oper} {a : Act} {w : World} {K : Act → World → Prop} {Q : Exit → Act → World → Prop} {E : Prop} (s x : Operand) (t tx : TypeId)
    (hop : o.op = Op.call { callee := Callee.builtin Builtin.copy, args := #[s, x], argTypes := #[t, tx] }) (h : if Region.wanted o (yielded ops a.tmps) = true then Oper.wp P o a w K Q else E) :
    if Region.wanted o (yielded ops a.tmps) = true then Oper.wp P o a w K Q else E := h
theorem step_copy {P : Program} {ops : Array Oper} {o : Oper} {a : Act} {w : World} {K : Act → World → Prop} {Q : Exit → Act → World → Prop} {E : Prop}
    (hg : o.guard = none) (s x : Operand) (t tx : TypeId) (hop : o.op = Op.call { callee := Callee.builtin Builtin.copy, args := #[s, x], argTypes := #[t, tx] })
    (sv xv v' : Value) (w' : World) (hs : a.eval s = sv) (hx : a.eval x = xv) (hr : (Builtin.copy_ #[t, tx] o.type #[sv, xv]).run P w = .ok v' w')
    (hK : K (a.put o.dst v') w') :
    if Region.wanted o (yielded ops a.tmps) = true then Oper.wp P o a w K Q else E := by
  have hw : Region.wanted o (yielded ops a.tmps) = true := by simp [Region.wanted, hg]
  rw [if_pos hw]
  unfold Oper.wp
  simp [execOp, hop, resolve, invoke, builtin, hs, hx, hr, Result.andThen]
  exact hK

theorem hSetN {W : World} {b : Nat} {l : List Nat} {blk : List UInt8} {n : Nat} {T : TypeId} (h : H W b l blk n T) (m : Nat) : H (W.setCell ⟨b, 73, none⟩ (.int .i64 (m : Int))) b l blk m T ∧ Only b W (W.setCell ⟨b, 73, none⟩ (.int .i64 (m : Int))) := by
  obtain ⟨h1, h2, h3⟩ := h
  rw [setCell_eq_setRow W b 73 _ T (0, 0) _ h3, hc_set_n h1 h2 m]
  exact ⟨⟨h1, h2, setRow_heap _ _ _ _ _ _ h3⟩, (Only.refl b W).setRow _⟩

/-- A slice of bytes outside block b. -/
def RowN (w : World) (b : Nat) (ao : Option Addr) (bs : List UInt8) : Prop := Row w ao bs ∧ ∀ a, ao = some a → a.block ≠ b
theorem RowN.only {w w' : World} {b : Nat} {ao : Option Addr} {bs : List UInt8} (h : RowN w b ao bs) (ho : Only b w w') : RowN w' b ao bs := by
  refine ⟨fun hl => ?_, h.2⟩
  obtain ⟨b2, off, e, hc⟩ := h.1 hl
  refine ⟨b2, off, e, fun i hi => ?_⟩
  have h1 := hc i hi
  have hne := h.2 _ e
  rw [← h1]
  exact World.cell?_of_block (w := w) (ho.heap (World.block_lt_of_cell? w _ h1) hne)
theorem RowN.drop {w : World} {b : Nat} {ao : Option Addr} {bs : List UInt8} (h : RowN w b ao bs) (m : Nat) : RowN w b (Option.map (fun x => x.add m) ao) (bs.drop m) := by
  constructor
  · intro hl
    simp only [List.length_drop] at hl
    obtain ⟨b2, off, rfl, hc⟩ := h.1 (by omega)
    refine ⟨b2, off + m, by simp [Addr.add_lit], fun i hi => ?_⟩
    simp only [List.length_drop] at hi
    rw [Nat.add_assoc, hc (m + i) (by omega)]
    simp [List.getD, List.getElem?_drop]
  · intro a ha
    cases ao with
    | none => cases ha
    | some x =>
      simp only [Option.map_some, Option.some.injEq] at ha
      subst ha
      have := h.2 x rfl
      unfold Addr.add
      split <;> simpa using this
theorem RowN.nil (w : World) (b : Nat) {ao : Option Addr} (h : ∀ a, ao = some a → a.block ≠ b) : RowN w b ao [] := ⟨Row.nil _ _, h⟩

set_option maxHeartbeats 4000000 in
theorem write_any (w : World) (b : Nat) (all : List UInt8) (ao : Option Addr) (cap : Nat) (bs : List UInt8) (hT : Tb w) (hb0 : 0 < b) (hS : Hs w b all) (hr : RowN w b ao bs) (hn : all.length + bs.length ≤ 100000) (hcap : bs.length ≤ cap) (hcap2 : cap ≤ 9223372036854775807) :
    Calls Tryd.prog 87 #[.pointer (some ⟨b, 0, none⟩), .slice ao bs.length cap] w fun e w' => e = .returned (.int .i64 0) ∧ Hs w' b (all ++ bs) ∧ Only b w w' := by
  go_enter Tryd.func87, Tryd.ntmps87
  have hm : w.cell? ⟨b, 0, none⟩ = some (.bool true) := by obtain ⟨_, _, h⟩ := hS; exact hMade h
  go_wp2_with fail
  refine (isMade_any w b hm).mono ?_
  rintro e w1 ⟨rfl, hw1⟩
  have hw2 := hw1.symm
  subst hw2
  clear hm hw1
  go_wp2_with fail
  go_loopw [1] (fun v W => ∃ (k : Nat) (ao2 : Option Addr) (cap2 n2 : Nat), k ≤ bs.length ∧ v = .slice ao2 n2 cap2 ∧ Hid (n2 = (bs.drop k).length) ∧ n2 ≤ cap2 ∧ cap2 ≤ 9223372036854775807 ∧ Hid (RowN W b ao2 (bs.drop k)) ∧ Hid (Hs W b (all ++ bs.take k)) ∧ Hid (Only b w W)) (fun v _ => (match v with | .slice _ n _ => n | _ => 0))
  case atStart => exact ⟨0, ao, cap, bs.length, by omega, rfl, rfl, hcap, hcap2, hr, mkH (by rw [List.take_zero, List.append_nil]; exact hS), Only.refl _ _⟩
  case round =>
    obtain ⟨k, ao2, cap2, n2, hk, rfl, hn2, hc1, hc2, hR, hSS, hO⟩ := hrel
    clear hS hr hcap hcap2
    by_cases hlt : k = bs.length
    · have h0 : n2 = 0 := by rw [hn2.out, hlt]; simp
      subst h0
      have HE : Hid (Hs wr b (all ++ bs)) := by have := hSS.out; rw [hlt, List.take_length] at this; exact this
      go_wp2
      go_ret
      exact ⟨rfl, HE.out, hO.out⟩
    · have h0 : 0 < n2 := by rw [hn2.out, List.length_drop]; omega
      have t0 : decide ((0 : Int) < (n2 : Int)) = true := by simp; omega
      have hSS' := hSS.out
      obtain ⟨blk, hblk, hH⟩ := hSS'
      obtain ⟨al, hal⟩ : ∃ al, all ++ bs.take k = al := ⟨_, rfl⟩
      rw [hal] at hblk hH
      obtain ⟨sL, hsL⟩ : ∃ sL, Dp.blks Dp.init al (al.length / 64) = sL := ⟨_, rfl⟩
      rw [hsL] at hH
      have hall : al.length = all.length + k := by rw [← hal, List.length_append, List.length_take]; omega
      obtain ⟨r, hr⟩ : ∃ r, al.length % 64 = r := ⟨_, rfl⟩
      obtain ⟨n, hnl⟩ : ∃ n, al.length = n := ⟨_, rfl⟩
      have hsz := hSize hH
      rw [hnl] at hsz
      have tm : (n : Int).tmod 64 = (r : Int) := by rw [Int.tmod_eq_emod_of_nonneg (by omega)]; omega
      have hr64 : r < 64 := by omega
      have hsl := fun W => run_arr_low (P := Tryd.prog) W 144 5 64 Tryd.underlying144 (by kernel_rfl) b 9 r (r : Int) rfl hr64
      have hR' := hR.out
      have hl8 := hH.1
      have hl64 := hH.2.1
      obtain ⟨m, hm⟩ : ∃ m, min n2 (64 - r) = m := ⟨_, rfl⟩
      have hcl : ((bs.drop k).take (64 - r)).length = m := by rw [List.length_take, ← hn2.out, ← hm, Nat.min_comm]
      have hcp : ∀ q ty, (Builtin.copy_ #[76, 76] ty #[.slice (some ⟨b, 9 + r, none⟩) (64 - r) (64 - r), .slice ao2 n2 cap2]).run Tryd.prog (wr.drewN q) = .ok (.int .i64 (m : Int)) ((wr.drewN q).setRow b (hc sL.list (blk.take r ++ (bs.drop k).take (64 - r) ++ blk.drop (r + m)) n)) := fun q ty => by
        have := run_copy_any (P := Tryd.prog) (w := wr.drewN q) 76 76 ty 5 b (9 + r) (64 - r) (64 - r) ao2 cap2 (bs.drop k) hR'.1 Tryd.underlying76 (by kernel_rfl) _ _ hH.2.2 (by rw [hc_size hH.1 hH.2.1]; omega) (by rw [← hn2.out]; exact h0)
        rw [← hn2.out, hm, hc_splice hl8 hl64 r _ (by rw [hcl]; omega), hcl, hnl] at this
        exact this
      obtain ⟨c, hcd⟩ : ∃ c, (bs.drop k).take (64 - r) = c := ⟨_, rfl⟩
      rw [hcd] at hcp hcl
      have hm1 : m ≤ n2 := by omega
      have hm2 : m ≤ 64 - r := by omega
      have hm3 : 0 < m := by omega
      have hkm : k + m ≤ bs.length := by have := hn2.out; rw [List.length_drop] at this; omega
      have hct : bs.take (k + m) = bs.take k ++ c := by
        rw [List.take_add, ← hcd]
        congr 1
        by_cases hmm : m = 64 - r
        · rw [hmm]
        · rw [List.take_of_length_le (i := m) (by rw [← hn2.out]; omega), List.take_of_length_le (i := 64 - r) (by rw [← hn2.out]; omega)]
      obtain ⟨aq, haq⟩ : ∃ aq, (if cap2 = m then ao2 else Option.map (fun x => x.add m) ao2) = aq := ⟨_, rfl⟩
      have HRq : Hid (∀ W, Only b wr W → RowN W b aq (bs.drop (k + m))) := by
        intro W ho
        have h1 := hR'.only ho
        rw [← haq]
        split
        · have : bs.drop (k + m) = [] := List.drop_eq_nil_of_le (by have := hn2.out; rw [List.length_drop] at this; omega)
          rw [this]; exact RowN.nil _ _ h1.2
        · have := h1.drop m
          rw [List.drop_drop] at this; exact this
      have hH2 : ∀ q, H ((wr.drewN q).setRow b (hc sL.list (blk.take r ++ c ++ blk.drop (r + m)) n)) b sL.list (blk.take r ++ c ++ blk.drop (r + m)) n 146 ∧ Only b wr ((wr.drewN q).setRow b (hc sL.list (blk.take r ++ c ++ blk.drop (r + m)) n)) := fun q =>
        ⟨⟨hl8, by simp [hcl]; omega, setRow_heap (wr.drewN q) _ _ _ _ _ hH.2.2⟩, ((Only.refl _ _).drewN q).setRow _⟩
      have HH2 := mkH hH2
      have HP := mkH (And.intro (step_full al c blk hl64 hblk) (step_part al c blk hl64 hblk))
      rw [hr, hcl, hsL] at HP
      have HAL : Hid (all ++ bs.take (k + m) = al ++ c) := by unfold Hid; rw [hct, ← List.append_assoc, hal]
      have HTw := mkH (tbOnly hT hO.out hb0)
      have HNL : Hid (al.length = n) := hnl
      have HR : Hid (n % 64 = r) := by unfold Hid; omega
      have HCL : Hid (c.length = m) := hcl
      have hok := Dp.blks_ok Dp.init_ok al (al.length / 64)
      rw [hsL] at hok
      have HOK := mkH hok
      have HN2 : Hid (n2 - m = (bs.drop (k + m)).length) := by unfold Hid; rw [List.length_drop]; have := hn2.out; rw [List.length_drop] at this; omega
      have HALL : Hid (n = all.length + k) := by unfold Hid; omega
      obtain ⟨C2, hC2⟩ : ∃ C2, hc sL.list (blk.take r ++ c ++ blk.drop (r + m)) n = C2 := ⟨_, rfl⟩
      rw [hC2] at hcp HH2
      obtain ⟨blk2, hbk2⟩ : ∃ x, blk.take r ++ c ++ blk.drop (r + m) = x := ⟨_, rfl⟩
      rw [hbk2] at HP HH2
      have HBL : Hid (blk2.length = 64) := by unfold Hid; rw [← hbk2]; simp [hcl]; omega
      have nb : n ≤ 100000 := by omega
      have mb : m ≤ 64 := by omega
      clear hC2 hct hcd hcl hm hR' hR hH hH2 hl8 hl64 hblk hSS hal hall hr hnl hn2 hbk2 hT hok hsL
      go_wp2_with fail
      go_region_held3 (fun w' => w'.cell? ⟨b, 73, none⟩ = some (.int .i64 (n : Int))) (first | go_keep | exact hSize (HH2.out _).1) (first
        | (refine atCopy (.tmp 20) (.tmp 21) 76 76 ?_ ?_; rfl; refine step_copy (by rfl) (.tmp 20) (.tmp 21) 76 76 (by rfl) (.slice (some ⟨b, 9 + r, none⟩) (64 - r) (64 - r)) (.slice ao2 n2 cap2) _ _ (by rfl) (by rfl) (hcp _ _) ?_))
      obtain ⟨h2, ho2⟩ := HH2.out 1
      generalize (wr.drewN 1).setRow b C2 = W2 at h2 ho2 ⊢
      obtain ⟨p, hp⟩ : ∃ p, n + m = p := ⟨_, rfl⟩
      have ep : (n : Int) + (m : Int) = (p : Int) := by omega
      have pb : p ≤ 200000 := by omega
      have hsz2 := hSize h2
      have hfr2 := hFree h2
      obtain ⟨h3, ho3⟩ := hSetN h2 p
      have HO3 := mkH (ho2.trans ho3)
      have H3 := mkH h3
      have hp64 : p % 64 = (r + m) % 64 := by have := HR.out; omega
      have HPP : Hid (n + m = p) := hp
      clear hcp HH2 h2 ho2 h3 ho3 hp
      by_cases hfull : r + m = 64
      · have tm2 : (p : Int).tmod 64 = 0 := by rw [Int.tmod_eq_emod_of_nonneg (by omega)]; omega
        go_wp2_with fail
        refine (takeBlock_any _ b sL blk2 p HOK.out (tbOnly HTw.out HO3.out hb0) hb0 H3.out).mono ?_
        rintro e W4 ⟨⟨v4, rfl⟩, h4, ho4⟩
        have HO4 := mkH (HO3.out.trans ho4)
        have H4 := mkH h4
        clear h4 ho4
        go_wp2_with fail
        refine ⟨⟨k + m, aq, cap2 - m, n2 - m, hkm, rfl, HN2, by omega, by omega, HRq.out _ HO4.out, ?_, hO.out.trans HO4.out⟩, by show n2 - m < n2; omega⟩
        have hlen : (al ++ c).length = p := by rw [List.length_append, HNL.out, HCL.out, HPP.out]
        obtain ⟨f1, f2⟩ := HP.out.1 hfull
        unfold Hid
        rw [HAL.out]
        refine ⟨blk2, ?_, ?_⟩
        · rw [f2, List.take_zero, List.drop_eq_nil_of_le (by omega)]
        · rw [f1, hlen]; exact H4.out
      · have tm2 : (p : Int).tmod 64 = ((r + m : Nat) : Int) := by rw [Int.tmod_eq_emod_of_nonneg (by omega)]; omega
        have t3 : ((((r + m : Nat) : Int)) == 0) = false := by simp; omega
        go_wp2_with fail
        refine ⟨⟨k + m, aq, cap2 - m, n2 - m, hkm, rfl, HN2, by omega, by omega, HRq.out _ HO3.out, ?_, hO.out.trans HO3.out⟩, by show n2 - m < n2; omega⟩
        have hlen : (al ++ c).length = p := by rw [List.length_append, HNL.out, HCL.out, HPP.out]
        obtain ⟨f1, f2⟩ := HP.out.2 (by omega)
        unfold Hid
        rw [HAL.out]
        refine ⟨blk2, f2, ?_⟩
        rw [f1, hlen]; exact H3.out
end Go.Proofs.YtcpmaddleleblaaDoor.Df
