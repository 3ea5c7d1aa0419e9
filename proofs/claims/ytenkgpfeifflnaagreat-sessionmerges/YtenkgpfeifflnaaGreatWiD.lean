/-
  More of the checks: upTo, fit, shortData, rightReceipt, May; and the document's: num, receipt, May, longData.
-/
import Derived.Test.YtenkgpfeifflnaaGreatWiC
namespace Go.Proofs.YtenkgpfeifflnaaGreat.Wd
open Go.RowKit Kt Pl Wi Wk Wc
open At (RowT)
set_option linter.unusedVariables false
set_option maxRecDepth 20000

theorem hmf : ∀ (fn : Fn) (first cap : Array Value) (w : World), (Instr.makeFunc fn first cap).run Tryz.prog w = .ok (.func fn first cap) w := fun _ _ _ _ => rfl

set_option maxHeartbeats 400000 in
theorem upTo_any (w : World) (ao : Option Addr) (cap : Nat) (l : List Int) (hr : RowI w ao l) (hlen : l.length ≤ 1000000) (lim : Int) :
    Calls Tryz.prog 122 #[.int .i64 lim, .slice ao l.length cap] w fun e w' => e = .returned (.bool (l.all (upToB lim))) ∧ w' = w.alloc (.cells #[.int .i64 lim] 3) := by
  have hmf := hmf
  have H := eachI_any (w.alloc (.cells #[.int .i64 lim] 3)) ao cap l (hr.gr ((Gr.refl w).alloc _)) hlen ⟨w.heap.size, 0, none⟩ lim (by rw [cell_new]; rfl)
  clear hr
  go_enter Tryz.func122, Tryz.ntmps122
  go_wp2_with fail
  refine H.mono ?_
  rintro e w1 ⟨rfl, rfl⟩
  clear H
  go_wp2
  go_ret
  exact ⟨rfl, rfl⟩

theorem upTo_at (w : World) (ao : Option Addr) (cap n : Nat) (l : List Int) (hn : l.length = n) (hr : RowI w ao l) (hlen : n ≤ 1000000) (lim : Int) :
    Calls Tryz.prog 122 #[.int .i64 lim, .slice ao n cap] w fun e w' => e = .returned (.bool (l.all (upToB lim))) ∧ w' = w.alloc (.cells #[.int .i64 lim] 3) := hn ▸ upTo_any w ao cap l hr (hn ▸ hlen) lim

set_option maxHeartbeats 400000 in
theorem fit1_any (w : World) (s : Bs) (lim : Nat) (p : Addr) (hc : w.cell? p = some (.int .i64 lim)) :
    Calls Tryz.prog 149 #[.string (S s), .pointer (some p)] w fun e w' => e = .returned (.bool (fitB lim s)) ∧ w' = w := by
  have HE : Hid (fitB lim s = decide ((S s).size ≤ lim)) := mkH rfl
  go_enter Tryz.func149, Tryz.ntmps149
  go_wp2
  go_ret
  exact ⟨ret_bool HE.out.symm, rfl⟩

set_option maxHeartbeats 1000000 in
theorem eachT_any (w : World) (ao : Option Addr) (cap : Nat) (l : List Bs) (hr : RowT w ao l) (hlen : l.length ≤ 1000000) (p : Addr) (lim : Nat) (hc : w.cell? p = some (.int .i64 lim)) :
    Calls Tryz.prog 148 #[.slice ao l.length cap, .func (Fn.func 149) #[] #[.pointer (some p)]] w fun e w' => e = .returned (.bool (l.all (fitB lim))) ∧ w' = w := by
  have HC := mkH hc
  clear hc
  go_enter Tryz.func148, Tryz.ntmps148
  go_wp2
  go_loop [6, 9] (fun _ i => ∃ k : Nat, k ≤ l.length ∧ i = .int .i64 k ∧ Hid ((l.take k).all (fitB lim) = true)) (fun _ i => l.length - (intOf i).toNat)
  case atStart => exact ⟨0, Nat.zero_le _, rfl, mkH (by simp)⟩
  case round =>
    obtain ⟨k, hk, rfl, HA⟩ := hrel
    by_cases hlt : k < l.length
    · obtain ⟨b, off, hao, hcl⟩ := hr (by omega)
      obtain ⟨x, hx⟩ : ∃ x, l[k]? = some x := ⟨_, List.getElem?_eq_getElem hlt⟩
      have hck : w.cell? ⟨b, off + k, none⟩ = some (.string (S x)) := by rw [hcl k hlt, getD_of hx]
      subst hao
      have HX := mkH hx
      clear hcl hx hr
      have H := fit1_any w x lim p HC.out
      cases hb : fitB lim x
      · rw [hb] at H
        have HE : Hid (l.all (fitB lim) = false) := mkH (all_false HX.out hb)
        clear hb HX
        go_wp2_with fail
        refine H.mono ?_
        rintro e w1 ⟨rfl, rfl⟩
        clear H
        go_wp2
        go_ret
        exact ⟨ret_bool HE.out.symm, rfl⟩
      · rw [hb] at H
        have HN : Hid ((l.take (k + 1)).all (fitB lim) = true) := mkH (by rw [all_take _ _ _ _ HX.out, HA.out, hb]; rfl)
        clear hb HX HA
        go_wp2_with fail
        refine H.mono ?_
        rintro e w1 ⟨rfl, rfl⟩
        clear H
        go_wp2
        go_round
        case rel => exact ⟨k + 1, by omega, by go_num, HN⟩
        case measure => simp [intOf]; omega
    · have HE : Hid (l.all (fitB lim) = true) := mkH (by have := HA.out; rwa [List.take_of_length_le (by omega)] at this)
      clear HA
      go_wp2
      go_ret
      exact ⟨ret_bool HE.out.symm, rfl⟩

set_option maxHeartbeats 400000 in
theorem fit_any (w : World) (ao : Option Addr) (cap : Nat) (l : List Bs) (hr : RowT w ao l) (hlen : l.length ≤ 1000000) (lim : Nat) :
    Calls Tryz.prog 144 #[.int .i64 lim, .slice ao l.length cap] w fun e w' => e = .returned (.bool (l.all (fitB lim))) ∧ w' = w.alloc (.cells #[.int .i64 lim] 3) := by
  have hmf := hmf
  have H := eachT_any (w.alloc (.cells #[.int .i64 lim] 3)) ao cap l (RowT.gr hr ((Gr.refl w).alloc _)) hlen ⟨w.heap.size, 0, none⟩ lim (by rw [cell_new]; rfl)
  clear hr
  go_enter Tryz.func144, Tryz.ntmps144
  go_wp2_with fail
  refine H.mono ?_
  rintro e w1 ⟨rfl, rfl⟩
  clear H
  go_wp2
  go_ret
  exact ⟨rfl, rfl⟩

theorem fit_at (w : World) (ao : Option Addr) (cap n : Nat) (l : List Bs) (hn : l.length = n) (hr : RowT w ao l) (hlen : n ≤ 1000000) (lim : Nat) (L : Int) (hL : L = (lim : Int)) :
    Calls Tryz.prog 144 #[.int .i64 L, .slice ao n cap] w fun e w' => e = .returned (.bool (l.all (fitB lim))) ∧ w' = w.alloc (.cells #[.int .i64 L] 3) := by subst hL; exact hn ▸ fit_any w ao cap l hr (hn ▸ hlen) lim

set_option maxHeartbeats 400000 in
theorem shortData_any (w : World) (ao : Option Addr) (cap : Nat) (l : List Bs) (hr : RowT w ao l) (hlen : l.length ≤ 1000000) :
    Calls Tryz.prog 128 #[.slice ao l.length cap] w fun e w' => e = .returned (.bool (dataB l)) ∧ Gr w w' := by
  by_cases h : l.length ≤ 1024
  · have HE : Hid (dataB l = l.all (fitB 4096)) := mkH (by simp [dataB, h])
    have H := fit_any w ao cap l hr hlen 4096
    have c1 : (l.length : Int) ≤ 1024 := by omega
    clear hr
    go_enter Tryz.func128, Tryz.ntmps128
    go_wp2_with fail
    refine H.mono ?_
    rintro e w1 ⟨rfl, rfl⟩
    clear H
    go_wp2
    go_ret
    exact ⟨ret_bool HE.out.symm, (Gr.refl w).alloc _⟩
  · have HE : Hid (dataB l = false) := mkH (by simp [dataB, h])
    have c1 : ¬ (l.length : Int) ≤ 1024 := by omega
    clear hr
    go_enter Tryz.func128, Tryz.ntmps128
    go_wp2
    go_ret
    exact ⟨ret_bool HE.out.symm, Gr.refl w⟩

theorem rcB_all (r : Rcp) : rcB r = [r.q, r.s, r.c].all (upToB 1099511627776) := by simp [rcB, numB]

set_option maxHeartbeats 400000 in
theorem rightReceipt_any (w : World) (r : Rcp) :
    Calls Tryz.prog 143 #[.agg #[.int .i64 r.q, .string (S r.g), .int .i64 r.s, .int .i64 r.c]] w fun e w' => e = .returned (.bool (rcB r)) ∧ Gr w w' := by

  go_enter Tryz.func143, Tryz.ntmps143
  go_wp2_with fail
  refine (upTo_at _ _ 3 3 [r.q, r.s, r.c] rfl ?hr (by omega) 1099511627776).mono ?_
  case hr => exact RowI.at _ [r.q, r.s, r.c] 3 _ (by simp)
  rintro e w1 ⟨rfl, rfl⟩
  go_wp2
  go_ret
  exact ⟨ret_bool rfl, (((Gr.refl w).alloc _).alloc _).alloc _⟩

theorem mayB_cases (lo hi : Int) : (¬ 0 ≤ lo ∧ mayB lo hi = false) ∨ (0 ≤ lo ∧ ¬ lo < hi ∧ mayB lo hi = false) ∨ (0 ≤ lo ∧ lo < hi ∧ ¬ hi ≤ 65536 ∧ mayB lo hi = false) ∨ (0 ≤ lo ∧ lo < hi ∧ hi ≤ 65536 ∧ mayB lo hi = true) := by
  unfold mayB
  by_cases h1 : 0 ≤ lo <;> by_cases h2 : lo < hi <;> by_cases h3 : hi ≤ 65536 <;> simp [h1, h2, h3]

theorem may_any (w : World) (lo hi : Int) :
    Calls Tryz.prog 126 #[.agg #[.int .i64 lo, .int .i64 hi]] w fun e w' => e = .returned (.bool (mayB lo hi)) ∧ Gr w w' := by
  rcases mayB_cases lo hi with ⟨h1, he⟩ | ⟨h1, h2, he⟩ | ⟨h1, h2, h3, he⟩ | ⟨h1, h2, h3, he⟩
  all_goals
    have HE := mkH he
    clear he
    go_enter Tryz.func126, Tryz.ntmps126
    go_wp2
    go_ret
    exact ⟨ret_bool HE.out.symm, (Gr.refl w).alloc _⟩

theorem rmay_any (w : World) (lo hi : Int) :
    Calls Tryz.prog 46 #[.agg #[.int .i64 lo, .int .i64 hi]] w fun e w' => e = .returned (.bool (mayB lo hi)) ∧ Gr w w' := by
  rcases mayB_cases lo hi with ⟨h1, he⟩ | ⟨h1, h2, he⟩ | ⟨h1, h2, h3, he⟩ | ⟨h1, h2, h3, he⟩
  all_goals
    have HE := mkH he
    clear he
    go_enter Tryz.func46, Tryz.ntmps46
    go_wp2
    go_ret
    exact ⟨ret_bool HE.out.symm, (Gr.refl w).alloc _⟩

theorem rnum_any (w : World) (n : Int) : Calls Tryz.prog 43 #[.int .i64 n] w fun e w' => e = .returned (.bool (numB n)) ∧ w' = w := by
  by_cases h0 : 0 ≤ n
  · have HE : Hid (numB n = decide (n ≤ 1099511627776)) := mkH (by simp [numB, upToB, h0])
    go_enter Tryz.func43, Tryz.ntmps43
    go_wp2
    go_ret
    exact ⟨ret_bool HE.out.symm, rfl⟩
  · have HE : Hid (numB n = false) := mkH (by simp [numB, upToB, h0])
    go_enter Tryz.func43, Tryz.ntmps43
    go_wp2
    go_ret
    exact ⟨ret_bool HE.out.symm, rfl⟩

set_option maxHeartbeats 400000 in
theorem rreceipt_any (w : World) (r : Rcp) :
    Calls Tryz.prog 45 #[.agg #[.int .i64 r.q, .string (S r.g), .int .i64 r.s, .int .i64 r.c]] w fun e w' => e = .returned (.bool (rcB r)) ∧ Gr w w' := by
  have H1 := fun W => rnum_any W r.q
  have H2 := fun W => rnum_any W r.s
  have H3 := fun W => rnum_any W r.c
  have HE : Hid (rcB r = (numB r.q && (numB r.s && numB r.c))) := mkH rfl
  generalize numB r.q = b1 at H1 HE
  generalize numB r.s = b2 at H2 HE
  generalize numB r.c = b3 at H3 HE
  cases b1
  · go_enter Tryz.func45, Tryz.ntmps45
    go_wp2_with fail
    refine (H1 _).mono ?_
    rintro e w1 ⟨rfl, rfl⟩
    go_wp2
    go_ret
    exact ⟨ret_bool HE.out.symm, (Gr.refl w).alloc _⟩
  cases b2
  · go_enter Tryz.func45, Tryz.ntmps45
    go_wp2_with fail
    refine (H1 _).mono ?_
    rintro e w1 ⟨rfl, rfl⟩
    go_wp2_with fail
    refine (H2 _).mono ?_
    rintro e w1 ⟨rfl, rfl⟩
    go_wp2
    go_ret
    exact ⟨ret_bool HE.out.symm, (Gr.refl w).alloc _⟩
  go_enter Tryz.func45, Tryz.ntmps45
  go_wp2_with fail
  refine (H1 _).mono ?_
  rintro e w1 ⟨rfl, rfl⟩
  go_wp2_with fail
  refine (H2 _).mono ?_
  rintro e w1 ⟨rfl, rfl⟩
  go_wp2_with fail
  refine (H3 _).mono ?_
  rintro e w1 ⟨rfl, rfl⟩
  go_wp2
  go_ret
  exact ⟨ret_bool (by rw [HE.out]; simp), (Gr.refl w).alloc _⟩

set_option maxHeartbeats 1000000 in
theorem longData_any (w : World) (ao : Option Addr) (cap : Nat) (l : List Bs) (hr : RowT w ao l) (hlen : l.length ≤ 1000000) :
    Calls Tryz.prog 44 #[.slice ao l.length cap] w fun e w' => e = .returned (.bool (!dataB l)) ∧ w' = w := by
  by_cases h : l.length ≤ 1024
  · have HE : Hid (dataB l = l.all (fitB 4096)) := mkH (by simp [dataB, h])
    have c1 : ¬ 1024 < (l.length : Int) := by omega
    go_enter Tryz.func44, Tryz.ntmps44
    go_wp2
    go_loop [3] (fun i => ∃ k : Nat, k ≤ l.length ∧ i = .int .i64 k ∧ Hid ((l.take k).all (fitB 4096) = true)) (fun i => l.length - (intOf i).toNat)
    case atStart => exact ⟨0, Nat.zero_le _, rfl, mkH (by simp)⟩
    case round =>
      obtain ⟨k, hk, rfl, HA⟩ := hrel
      by_cases hlt : k < l.length
      · obtain ⟨b, off, hao, hcl⟩ := hr (by omega)
        obtain ⟨x, hx⟩ : ∃ x, l[k]? = some x := ⟨_, List.getElem?_eq_getElem hlt⟩
        have hck : w.cell? ⟨b, off + k, none⟩ = some (.string (S x)) := by rw [hcl k hlt, getD_of hx]
        subst hao
        have HX := mkH hx
        clear hcl hx hr
        by_cases hb : x.length ≤ 4096
        · have c2 : ¬ 4096 < ((S x).size : Int) := by rw [S_len]; omega
          have HN : Hid ((l.take (k + 1)).all (fitB 4096) = true) := mkH (by rw [all_take _ _ _ _ HX.out, HA.out]; simp [fitB, hb])
          clear hb HX HA
          go_wp2
          go_round
          case rel => exact ⟨k + 1, by omega, by go_num, HN⟩
          case measure => simp [intOf]; omega
        · have c2 : 4096 < ((S x).size : Int) := by rw [S_len]; omega
          have HF : Hid (l.all (fitB 4096) = false) := mkH (all_false HX.out (by simp [fitB]; omega))
          clear hb HX HA
          go_wp2
          go_ret
          exact ⟨ret_bool (by rw [HE.out, HF.out]; rfl), rfl⟩
      · have HF : Hid (l.all (fitB 4096) = true) := mkH (by have := HA.out; rwa [List.take_of_length_le (by omega)] at this)
        clear HA
        go_wp2
        go_ret
        exact ⟨ret_bool (by rw [HE.out, HF.out]; rfl), rfl⟩
  · have HE : Hid (dataB l = false) := mkH (by simp [dataB, h])
    have c1 : 1024 < (l.length : Int) := by omega
    clear hr
    go_enter Tryz.func44, Tryz.ntmps44
    go_wp2
    go_ret
    exact ⟨ret_bool (by rw [HE.out]; rfl), rfl⟩
end Go.Proofs.YtenkgpfeifflnaaGreat.Wd
