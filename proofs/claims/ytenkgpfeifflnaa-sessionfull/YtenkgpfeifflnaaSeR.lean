/-
  rising's iterator: each client and its answer, by rising clients.
-/
import Derived.Test.YtenkgpfeifflnaaSeK
namespace Go.Proofs.Ytenkgpfeifflnaa.Sr
open Go.RowKit Go.Shelf Kt Pl Wi Wk Wa Sm Sa Sb Sc Sd Si Sk
open Dk (Fr block_lt)
set_option linter.unusedVariables false
set_option linter.unusedSimpArgs false
set_option maxRecDepth 20000
attribute [local go_sem] Oper.semAt_some

theorem fm_bx {m : Nat} {Q : Nat → Prop} {w w' : World} {b : Nat} {cs : Array Value} {t : TypeId} (h : Bx w b cs t) (hf : Fm m Q w w') (hm : b < m) (hq : ¬ Q b) : Bx w' b cs t := (hf.block b hm h.lt hq).trans h
theorem fm_mt {m : Nat} {Q : Nat → Prop} {w w' : World} {b : Nat} {l : List X} (h : Mt w b l) (hf : Fm m Q w w') (hm : b < m) (hq : ¬ Q b) : Mt w' b l := by
  have hlt := h.lt
  obtain ⟨es, clock, hb, r⟩ := h
  exact ⟨es, clock, (hf.block b hm hlt hq).trans hb, r⟩
theorem grown_of_below' {w w' : World} (h : Below w.heap.size w w') : w.grownBy w' none := ⟨h.os, h.tape, h.output, h.size, fun k hk _ => h.block k hk⟩
/-- The sorted keys, as they are read. -/
def KeyR (w : World) (m : Nat) (ao : Option Addr) (xs : List X) : Prop := ∀ k x, xs[k]? = some x → ∃ b, ao = some ⟨b, 0, none⟩ ∧ b < m ∧ w.cell? ⟨b, k, none⟩ = some (.int .i64 x.k)
theorem keyR_own {w : World} {base cap : Nat} {ao : Option Addr} {xs : List X} (h : w.ownsRow base 3 1 (.slice ao xs.length cap) xs.length (iK xs)) : KeyR w w.heap.size ao xs := by
  intro k x hx
  have hk := Wa.lt_of hx
  rcases h.2 with ⟨e1, e2⟩ | ⟨g, c, cur, e1, h1, h2, _⟩
  · omega
  · simp only [Value.slice.injEq] at e1
    obtain ⟨rfl, -⟩ := e1
    refine ⟨g, rfl, block_lt h2, ?_⟩
    have := World.ownsRow.cellAt h k (by omega)
    rw [this]
    simp [iK, hx]
theorem keyR_fm {w w' : World} {m : Nat} {Q : Nat → Prop} {ao : Option Addr} {xs : List X} (h : KeyR w m ao xs) (hf : Fm m Q w w') (hq : ∀ b, ao = some ⟨b, 0, none⟩ → ¬ Q b) : KeyR w' m ao xs := by
  intro k x hx
  obtain ⟨b, e, hb, hc⟩ := h k x hx
  refine ⟨b, e, hb, ?_⟩
  rw [World.cell?_of_block (w := w) (a := ⟨b, k, none⟩) (hf.block b hb (World.block_lt_of_cell? w _ hc) (hq b e))]
  exact hc

set_option maxRecDepth 100000 in
set_option maxHeartbeats 4000000 in
theorem rising_seq (n : Nat) (hn : 1 ≤ n) (Q : Nat → Prop) (cb : Nat) {w : World} {F : Nat → Prop} {T Mb : Nat} {xs : List X} (hX : Tx w F T Mb xs) (hcb : Bx w cb #[.pointer (some ⟨T, 0, none⟩)] 23) (hQ : ∀ k, Q k → k < w.heap.size) (q1 : ¬ Q cb) (q2 : ¬ Q T) (q3 : ¬ Q Mb) :
    SeqM Try.prog n 22 #[.pointer (some ⟨cb, 0, none⟩)] (fun x : X => #[.int .i64 x.k, x.v]) Q xs w := fun lp J W hW hlp hlW hJ hY h0 => by
  have hcW := bx_bel hcb hW
  have hXW := hX.below hW
  have HCL := mkH hcW.lt
  have HTL := mkH hXW.bx.lt
  have HML := mkH hXW.m.lt
  have q1' : ¬ (Q cb ∨ cb = lp) := fun x => by rcases x with x | x; exact q1 x; have := hcb.lt; omega
  have q2' : ¬ (Q T ∨ T = lp) := fun x => by rcases x with x | x; exact q2 x; have := hX.bx.lt; omega
  have q3' : ¬ (Q Mb ∨ Mb = lp) := fun x => by rcases x with x | x; exact q3 x; have := hX.m.lt; omega
  have HS := mkH hX.s
  have HLN := mkH hX.len
  have HNK := mkH (fun x hx => (hX.r x hx).2.2.2.1)
  have c0 : W.cell? ⟨cb, 0, none⟩ = some (.pointer (some ⟨T, 0, none⟩)) := hcW.cell 0
  have cT : W.cell? ⟨T, 0, none⟩ = some (.map (some Mb)) := hXW.bx.cell 0
  have HCB := mkH hcW
  have HTB := mkH hXW.bx
  have HMB := mkH hXW.m
  have hql : ∀ k, Q k → k < W.heap.size := fun k hk => Nat.lt_of_lt_of_le (hQ k hk) hW.size
  clear hcW hXW hcb hX hQ
  refine callsIn_of_wp Try.func22 rfl trivial ?_ rfl
  simp only [Try.ntmps22, List.size_toArray, List.length_cons, List.length_nil, Nat.reduceAdd, Nat.reduceSub, Array.replicate_succ, Array.replicate_zero, List.push_toArray, List.append_toArray, List.nil_append, List.cons_append]
  gi_wp2_with fail
  refine ⟨trivial, (callsIn_wide.2 (keys_any (some Mb) W)).mono ?_⟩
  rintro e w1 ⟨rfl, rfl⟩
  gi_wp2_with fail
  refine ⟨trivial, (callsIn_wide.2 (sorted_any HMB.out HS.out (by have := HLN.out; omega))).mono ?_⟩
  rintro e W2 ⟨ao, cap, rfl, hown, hb2⟩
  have hbW : Below W.heap.size W W2 := ((Below.refl _ W).alloc (Nat.le_refl _) _).trans (hb2.mono (Nat.le_succ _))
  have hm0 : W.heap.size ≤ W2.heap.size := hbW.size
  have hJ2 : J W2.heap.size 0 W2 := hJ W2.heap.size 0 W W2 none (h0 _ hm0) (Go.Proofs.Ytenkgpfeifflnaa.Sr.grown_of_below' hbW) (fun r e => by cases e)
  have HJ2 := mkH hJ2
  have HK2 := mkH (keyR_own hown)
  have HC2 := mkH (bx_bel HCB.out hbW)
  have HT2 := mkH (bx_bel HTB.out hbW)
  have HM2 := mkH (HMB.out.below hbW)
  have HAO : Hid (∀ b, ao = some ⟨b, 0, none⟩ → W.heap.size ≤ b) := mkH (fun b e => by have := (own_far hown _ e).1; simp at this; omega)
  have HLP := mkH hlW
  have HQL := mkH hql
  clear hown hb2 hbW hJ2 HCB HTB HMB c0 cT h0 hql
  generalize hm : W2.heap.size = m at *
  gi_wp2_with fail
  gi_loopw [12] (fun i wr => ∃ k : Nat, k ≤ xs.length ∧ i = .int .i64 (k : Int) ∧ Hid (J m k wr) ∧ Hid (KeyR wr m ao xs) ∧ Hid (Bx wr cb #[.pointer (some ⟨T, 0, none⟩)] 23) ∧ Hid (Bx wr T #[.map (some Mb)] 48) ∧ Hid (Mt wr Mb xs) ∧ m ≤ wr.heap.size) (fun i _ => xs.length - (intOf i).toNat)
  case atStart => exact ⟨0, Nat.zero_le _, rfl, HJ2, HK2, HC2, HT2, HM2, Nat.le_of_eq hm.symm⟩
  case round =>
    obtain ⟨k, hk, rfl, HJ, HK, HC, HT, HM, hmw⟩ := hrel
    clear HJ2 HK2 HC2 HT2 HM2
    have hln : xs.length ≤ 64 := HLN.out
    rcases Nat.lt_or_ge k xs.length with hkl | hkl
    · obtain ⟨x, hx⟩ := Wa.some_of hkl
      obtain ⟨b, rfl, hbm, hcell⟩ := HK.out k x hx
      have c0 : wr.cell? ⟨cb, 0, none⟩ = some (.pointer (some ⟨T, 0, none⟩)) := HC.out.cell 0
      have cT : wr.cell? ⟨T, 0, none⟩ = some (.map (some Mb)) := HT.out.cell 0
      have hkw := wf_num (HNK.out x (List.mem_of_getElem? hx))
      have hlk := look1 uI Try.underlying46 (zA wr) HM.out (k := x.k) hkw
      rw [mem_at HS.out (List.mem_of_getElem? hx)] at hlk
      simp only at hlk
      obtain ⟨fn, tmps, assign, body, hy, hR⟩ := hY m k x wr (by omega) hmw HJ.out hx
      obtain ⟨xk, hxk⟩ : ∃ xk, x.k = xk := ⟨_, rfl⟩
      obtain ⟨xv, hxv⟩ : ∃ xv, x.v = xv := ⟨_, rfl⟩
      rw [hxk] at hcell hlk
      rw [hxv] at hlk
      simp only [hxk, hxv] at hy
      clear hx hkw hxk hxv
      gi_wp2
      refine hR.mono ?_
      rintro e W3 ⟨rfl, hJ3, hk3⟩
      have HJ3 := mkH hJ3
      have HK3 := mkH (keyR_fm HK.out hk3 (fun b' e => fun h => by
        have := HAO.out b' e
        rcases h with h | h
        · have := HQL.out b' h; omega
        · have := HLP.out; omega))
      have HC3 := mkH (fm_bx HC.out hk3 (by have := HCL.out; omega) q1')
      have HT3 := mkH (fm_bx HT.out hk3 (by have := HTL.out; omega) q2')
      have HM3 := mkH (fm_mt HM.out hk3 (by have := HML.out; omega) q3')
      have hm3 : m ≤ W3.heap.size := Nat.le_trans hmw hk3.size
      clear hJ3 hk3 hy hR hlk c0 cT hcell
      gi_wp2
      go_roundw
      case rel => exact ⟨k + 1, by omega, by go_num, HJ3, HK3, HC3, HT3, HM3, hm3⟩
      case measure => simp [intOf]; omega
    · obtain rfl : k = xs.length := by omega
      gi_wp2
      refine bodyPost_end (results_none rfl _ _ _) rfl ?_
      exact ⟨⟨_, rfl⟩, m, hm0, HJ.out⟩
end Go.Proofs.Ytenkgpfeifflnaa.Sr
