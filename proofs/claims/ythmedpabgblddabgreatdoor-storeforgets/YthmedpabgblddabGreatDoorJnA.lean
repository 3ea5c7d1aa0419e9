/-
  A store's state: its log, its snapshot, the records behind it; what each call leaves. Nothing of the program's memory.
  A map of votes in memory: what it reads as, and its laws in plain words.
  What a store's own memory is (its struct and its map), and the small functions: isMade, isNumber, the reader's num and text, addNums, raise.
  The reader's text, addNums, raise.
  forget, hasRoom, Slots, Get.
  apply: what a record does.
-/
import Derived.Test.YthmedpabgblddabGreatDoorStP
import Derived.Test.YthmedpabgblddabGreatDoorSgV
import Derived.Test.YthmedpabgblddabGreatDoorDiK
import Derived.Maps.RangeWalk
import Derived.Maps.Ext
import Derived.Test.YthmedpabgblddabGreatDoorWrites
import Derived.Test.YthmedpabgblddabGreatDoorReads
import Derived.Test.YthmedpabgblddabGreatDoorDiB
import Derived.Lib.ConvBytes
namespace Go.Proofs.YthmedpabgblddabGreatDoor.Tt
open Pl Dp Sq Sr Sv Tp
set_option linter.unusedVariables false

structure T where
  h : H
  sn : Option M
  rl : List Rc
def s0 (t : T) : M := t.sn.getD m0
def mm (t : T) : M := rp (s0 t) t.rl
def dn (t : T) : Bool := t.h.dn.isSome
structure TI (N : Nat) (t : T) : Prop where
  inv : Inv N t.h
  rcd : all t.h.segs = t.rl.map eR
  wf : Wf (s0 t) t.rl
theorem TI.ok {N : Nat} {t : T} (h : TI N t) : OkM (mm t) := h.wf.ok
theorem TI.more {N K : Nat} {t : T} (h : TI N t) (hk : N ≤ K) : TI K t := ⟨Sv.Inv.more h.inv hk, h.rcd, h.wf⟩
theorem few_segs {N : Nat} {h : H} (hi : Inv N h) : h.segs.length ≤ N + 1 := by
  by_cases h0 : h.segs = []
  · rw [h0]; simp
  · obtain ⟨i, s, hs⟩ := snoc_of h0
    have hc := hi.ch
    have ht := hi.top
    have h1 := top_all0 hc
    rw [hs] at hc h1 ht ⊢
    have h2 := all_len hc
    have hp := hi.p1
    have h3 : i.length * 1 ≤ i.length * h.per := Nat.mul_le_mul_left _ hp
    rw [List.length_append, List.length_singleton]
    omega
theorem all_ap {h : H} (r : List UInt8) (hf : h.segs.length < 256) : all (app h r).segs = all h.segs ++ [r] := by
  by_cases h0 : h.segs = []
  · rw [app_nil r h0, h0]; simp [all]
  · obtain ⟨i, z, hz⟩ := snoc_of h0
    rw [app_snoc r hz]
    split
    · rw [if_neg (by omega), all_app]; simp [all]
    · simp only [hz, all_snoc, List.append_assoc]
theorem app_per (h : H) (r : List UInt8) : (app h r).per = h.per := by
  by_cases h0 : h.segs = []
  · rw [app_nil r h0]
  · obtain ⟨i, z, hz⟩ := snoc_of h0
    rw [app_snoc r hz]
    split
    · split <;> rfl
    · rfl
theorem app_dn (h : H) (r : List UInt8) : (app h r).dn = h.dn := by
  by_cases h0 : h.segs = []
  · rw [app_nil r h0]
  · obtain ⟨i, z, hz⟩ := snoc_of h0
    rw [app_snoc r hz]
    split
    · split <;> rfl
    · rfl
theorem appErr0 {N : Nat} {h : H} (hi : Inv N h) (hN : N ≤ 200) : appErr h = 0 := by
  have := few_segs hi
  unfold appErr
  rw [if_neg (by omega)]
theorem all_syn (h : H) : all (syn h).segs = all h.segs := by
  simp only [syn, all, List.map_map]
  rfl
def wr (t : T) (r : Rc) : T := { t with h := app t.h (eR r), rl := t.rl ++ [r] }
theorem mm_wr (t : T) (r : Rc) : mm (wr t r) = ap (mm t) r := rp_snoc _ _ _
theorem dn_wr (t : T) (r : Rc) : dn (wr t r) = dn t := by simp only [dn, wr, app_dn]
theorem TI.wr {N : Nat} {t : T} (h : TI N t) (hN : N ≤ 200) {r : Rc} (hr : okR (mm t) r) : TI (N + 1) (Tt.wr t r) := by
  have hf := few_segs h.inv
  refine ⟨Sr.Inv.app h.inv (by omega) (eR_len hr), ?_, h.wf.snoc hr⟩
  simp only [Tt.wr, all_ap _ (show t.h.segs.length < 256 by omega), h.rcd, List.map_append, List.map_cons, List.map_nil]
def sy (t : T) : T := { t with h := syH t.h }
theorem syH_all (h : H) : all (syH h).segs = all h.segs := by unfold syH; split; rfl; exact all_syn h
theorem syH_per (h : H) : (syH h).per = h.per := by unfold syH; split <;> rfl
theorem syH_dn (h : H) : (syH h).dn = h.dn := by unfold syH; split <;> rfl
theorem TI.sy {N : Nat} {t : T} (h : TI N t) : TI N (Tt.sy t) := ⟨inv_sy h.inv, by simp only [Tt.sy, syH_all, h.rcd], h.wf⟩
theorem mm_sy (t : T) : mm (sy t) = mm t := rfl
theorem dn_sy (t : T) : dn (sy t) = dn t := by simp only [dn, sy, syH_dn]
def cr (t : T) (k f : Int) : T := { t with h := crH t.h k f }
theorem crH_segs (h : H) (k f : Int) : (crH h k f).segs = h.segs ∧ (crH h k f).per = h.per ∧ (crH h k f).safe = h.safe := by unfold crH crs; split; exact ⟨rfl, rfl, rfl⟩; split <;> exact ⟨rfl, rfl, rfl⟩
theorem TI.cr {N : Nat} {t : T} (h : TI N t) (k f : Int) : TI N (Tt.cr t k f) := ⟨inv_cr h.inv k f, by simp only [Tt.cr, crH_segs, h.rcd], h.wf⟩
theorem mm_cr (t : T) (k f : Int) : mm (cr t k f) = mm t := rfl
noncomputable def rs (t : T) : T := { t with h := rst t.h, rl := t.rl.take (all (rst t.h).segs).length }
theorem rst_pre {N : Nat} {h : H} (hi : Inv N h) : all (rst h).segs <+: all h.segs := by
  unfold rst
  split
  · exact List.prefix_rfl
  · rename_i p _
    exact (rs_ok h.per p hi.ch hi.fits).2.2.2.2
theorem rst_per (h : H) : (rst h).per = h.per := by unfold rst; split <;> rfl
theorem rst_dn (h : H) : (rst h).dn = none := by unfold rst; split <;> simp_all
theorem TI.rs {N : Nat} {t : T} (h : TI N t) : TI N (Tt.rs t) := by
  refine ⟨inv_rs h.inv, ?_, h.wf.take _⟩
  have := List.prefix_iff_eq_take.1 (rst_pre h.inv)
  simp only [Tt.rs]
  rw [List.map_take, ← h.rcd]
  exact this
theorem dn_rs (t : T) : dn (rs t) = false := by simp only [dn, rs, rst_dn]; rfl
/-- A restart of a log that is up. -/
theorem rs_up {N : Nat} {t : T} (h : TI N t) (hd : t.h.dn = none) : rs t = t := by
  have e : rst t.h = t.h := by unfold rst; rw [hd]
  have hl : (all t.h.segs).length = t.rl.length := by rw [h.rcd]; simp
  obtain ⟨a, b, c⟩ := t
  simp only [rs] at *
  rw [e, hl, List.take_length]
/-- What was synced is there. -/
theorem rs_keeps {N : Nat} {t : T} (h : TI N t) (hb : t.h.safe - bas t.h.segs ≤ (all t.h.segs).length) : t.h.safe - bas t.h.segs ≤ (rs t).rl.length := by
  have hlen : (rs t).rl.length = min (all (rst t.h).segs).length t.rl.length := by simp [rs]
  have hl : (all t.h.segs).length = t.rl.length := by rw [h.rcd]; simp
  have : t.h.safe - bas t.h.segs ≤ (all (rst t.h).segs).length := by
    unfold rst
    split
    · exact hb
    · rename_i p _
      exact rs_safe t.h.per t.h.safe p h.inv.ch h.inv.fits h.inv.kept h.inv.hi
  omega
def sp (t : T) : T := ⟨⟨t.h.per, [], 0, none⟩, some (mm t), []⟩
theorem TI.sp {N : Nat} {t : T} (h : TI N t) : TI 0 (Tt.sp t) := ⟨inv_new h.inv.p1 h.inv.p2, rfl, h.ok⟩
theorem mm_sp (t : T) : mm (sp t) = mm t := rfl
theorem dn_sp (t : T) : dn (sp t) = false := rfl
def tn (per : Nat) : T := ⟨⟨per, [], 0, none⟩, none, []⟩
theorem TI.tn {per : Nat} (h1 : 1 ≤ per) (h2 : per ≤ 1024) : TI 0 (Tt.tn per) := ⟨inv_new h1 h2, rfl, Tp.ok0⟩

/-! What each call answers and leaves. -/
def isNm (n : Int) : Bool := decide (0 ≤ n ∧ n ≤ 1099511627776)
def pE (t : T) (b : Int) : Int := if dn t then 10 else if isNm b = false then 2 else if b < (mm t).pr then 16 else 0
def pT (t : T) (b : Int) : T := if pE t b = 0 ∧ b ≠ (mm t).pr then wr t (.pm b.toNat) else t
def aE (t : T) (s : Nat) (b : Int) : Int := if dn t then 10 else if isNm b = false then 2 else if b < (mm t).pr ∨ s < (mm t).ba then 16 else 0
def aT (t : T) (s : Nat) (b : Int) (v : List UInt8) : T := if aE t s b = 0 then wr t (.ac s b.toNat v) else t
def fE (t : T) : Int := if dn t then 10 else 0
def fT (t : T) (n : Nat) : T := if fE t = 0 ∧ (mm t).ba < n then wr t (.bs n) else t
def yE (t : T) : Int := if dn t then 10 else 0
def nT (t : T) : T := if dn t then t else sp t
def cE (t : T) (k : Int) : Int := if dn t then 10 else if k < 0 then 2 else 0
def rE (t : T) : Int := if dn t then 0 else 9
theorem TI.pT {N : Nat} {t : T} (h : TI N t) (hN : N ≤ 200) (b : Int) : TI (N + 1) (Tt.pT t b) := by
  unfold Tt.pT
  split
  · rename_i hh
    refine h.wr hN ?_
    have h1 := hh.1
    unfold pE at h1
    split at h1
    · cases h1
    · split at h1
      · cases h1
      · rename_i hb
        simp only [isNm, decide_eq_false_iff_not, Classical.not_not] at hb
        simp only [okR]; omega
  · exact h.more (by omega)
theorem TI.aT {N : Nat} {t : T} (h : TI N t) (hN : N ≤ 200) {s : Nat} (hs : s ≤ 60) (b : Int) {v : List UInt8} (hv : v.length ≤ 300) : TI (N + 1) (Tt.aT t s b v) := by
  unfold Tt.aT
  split
  · rename_i h1
    refine h.wr hN ?_
    unfold aE at h1
    split at h1
    · cases h1
    · split at h1
      · cases h1
      · split at h1
        · cases h1
        · rename_i hb hc
          simp only [isNm, decide_eq_false_iff_not, Classical.not_not] at hb
          simp only [okR]; omega
  · exact h.more (by omega)
theorem TI.fT {N : Nat} {t : T} (h : TI N t) (hN : N ≤ 200) {n : Nat} (hn : n ≤ 1099511627776) : TI (N + 1) (Tt.fT t n) := by
  unfold Tt.fT
  split
  · exact h.wr hN hn
  · exact h.more (by omega)
theorem TI.nT {N : Nat} {t : T} (h : TI N t) : TI N (Tt.nT t) := by
  unfold Tt.nT
  split
  · exact h
  · exact h.sp.more (Nat.zero_le _)
end Go.Proofs.YthmedpabgblddabGreatDoor.Tt

namespace Go.Proofs.YthmedpabgblddabGreatDoor.Tm
open Go.RowKit Kt Dk Tp Go.Maps Go.ChangeMaps
set_option linter.unusedVariables false
set_option maxRecDepth 20000

/-- How a vote reads. -/
def vE (v : Value) : Option (DataW Unit × List MemPlace) :=
  match v with
  | .agg ⟨[.int .i64 b, .string s]⟩ => some (.agg [.lit (.int .i64 b), .lit (.string s.data.toList)], [])
  | _ => none
def vV (v : V) : Value := .agg #[.int .i64 (v.bal : Int), .string ⟨v.val.toArray⟩]
def vD (v : V) : DataW Unit := .agg [.lit (.int .i64 (v.bal : Int)), .lit (.string v.val)]
theorem vE_mk (v : V) : vE (vV v) = some (vD v, []) := by simp [vE, vV, vD]
def kL (k : Nat) : Lit := .int .i64 (k : Int)
def eD (p : Nat × V) : Lit × DataW Unit := (kL p.1, vD p.2)
def Dm (l : Sl) : DataW Unit := .map (l.map eD)
theorem kL_inj {a b : Nat} (h : kL a = kL b) : a = b := by simp only [kL, Lit.int.injEq] at h; omega
theorem kL_key (a : Nat) : WideAt.IsKeyLit (kL a) := trivial
theorem kL_same (a b : Nat) : (kL a).sameKey (kL b) = decide (a = b) := by
  by_cases h : a = b
  · subst h; rw [WideAt.sameKey_self (kL_key a)]; simp
  · rw [sameKey_ne (fun e => h (kL_inj e))]; simp [h]
theorem kL_before (a b : Nat) : (kL a).before (kL b) = decide (a < b) := by
  simp only [kL, Lit.before]
  by_cases h : a < b
  · simp [h]
  · simp [h]
theorem insert_put (l : Sl) (hs : Srt l) (k : Nat) (v : V) : putKey (kL k) (vD v) (l.map eD) = (put l k v).map eD := by
  unfold putKey
  induction l with
  | nil => simp [put, DataW.insert, eD]
  | cons q l ih =>
    obtain ⟨a, x⟩ := q
    obtain ⟨h1, h2⟩ := List.pairwise_cons.1 hs
    simp only at h1
    have e1 : notKey (kL k) (eD (a, x)) = !decide (a = k) := by simp only [notKey, eD, kL_same]
    have hall : ∀ (hle : k ≤ a), (l.map eD).filter (notKey (kL k)) = l.map eD := fun hle => by
      refine List.filter_eq_self.2 (fun p hp => ?_)
      obtain ⟨q, hq, rfl⟩ := List.mem_map.1 hp
      have := h1 q hq
      simp only [notKey, eD, kL_same]
      simp; omega
    rw [List.map_cons, List.filter_cons, e1, put]
    by_cases ha : k = a
    · subst ha
      rw [if_neg (by simp), if_neg (by omega), if_pos rfl, hall (Nat.le_refl _)]
      cases l with
      | nil => rfl
      | cons p l =>
        have := h1 p (by simp)
        simp only [List.map_cons, DataW.insert, eD, kL_before]
        rw [if_pos (by simp; omega)]
    · rw [if_pos (by simp; omega)]
      by_cases hk : k < a
      · rw [if_pos hk, hall (by omega)]
        simp only [DataW.insert, eD, kL_before, List.map_cons]
        rw [if_pos (by simpa using hk)]
      · rw [if_neg hk, if_neg ha]
        simp only [DataW.insert, eD, kL_before]
        rw [if_neg (by simpa using hk)]
        simp only [List.map_cons, eD]
        rw [← ih h2]
theorem Dm_put {l : Sl} (hs : Srt l) (k : Nat) (v : V) : (Dm l).put (kL k) (vD v) = Dm (put l k v) := by
  unfold Dm; rw [DataW.put_eq, insert_put l hs]
theorem Dm_has (l : Sl) (k : Nat) : Maps.has (Dm l) (kL k) = (atS l k).isSome := by
  unfold Dm
  rw [Maps.has_eq]
  induction l with
  | nil => simp [atS]
  | cons q l ih =>
    obtain ⟨a, x⟩ := q
    rw [List.map_cons, List.any_cons, ih, atS]
    simp only [eD, kL_same]
    by_cases h : a = k <;> simp [h]
theorem Dm_at (l : Sl) (k : Nat) (z : DataW Unit) : (Dm l).atKey (kL k) z = match atS l k with | none => z | some v => vD v := by
  unfold Dm
  induction l with
  | nil => simp [atS, DataW.atKey]
  | cons q l ih =>
    obtain ⟨a, x⟩ := q
    simp only [DataW.atKey, List.map_cons, List.find?_cons] at ih ⊢
    simp only [eD, kL_same, atS]
    by_cases h : a = k
    · simp [h]
    · simp only [h, decide_false, if_false]
      exact ih
theorem Dm_size (l : Sl) : Maps.size (Dm l) = l.length := by unfold Dm; rw [Maps.size_eq]; simp
theorem Dm_del (l : Sl) (k : Nat) : (Dm l).del (kL k) = Dm (l.filter (fun p => decide (p.1 ≠ k))) := by
  unfold Dm
  rw [DataW.del_eq]
  unfold delKey
  rw [List.filter_map]
  refine congrArg DataW.map (congrArg (List.map eD) (List.filter_congr fun p _ => ?_))
  simp only [Function.comp, notKey, eD, kL_same]
  simp

/-- Block b is a map that has this. -/
def Mw (w : World) (b : Nat) (l : Sl) : Prop := w.ownsMap Tryz.prog 3 vE b l.length (Dm l)
theorem law : Keyed Tryz.prog 3 := int_keyed Tryz.underlying3
theorem wf_nat {k : Nat} (h : k ≤ 9223372036854775807) : (Lit.int .i64 (k : Int)).wf = true := by
  have h1 : (IntKind.i64.min : Int) = -9223372036854775808 := rfl
  have h2 : (IntKind.i64.max : Int) = 9223372036854775807 := rfl
  simp [Lit.wf, h1, h2]; omega
theorem hkey {k : Nat} (h : k ≤ 9223372036854775807) : keyOf Tryz.prog 3 (.int .i64 (k : Int)) = some (kL k) := keyOf_int_mk Tryz.underlying3 (wf_nat h)
theorem tight {w : World} {b n : Nat} {l : Sl} (h : w.ownsMap Tryz.prog 3 vE b n (Dm l)) : Mw w b l := by
  obtain ⟨es, clock, hb, F, hs, hD⟩ := h
  have h1 := congrArg Maps.size hD
  rw [Dm_size] at h1
  simp only [Maps.size, Go.length_sorted, List.length_map, Array.length_toList] at h1
  exact ⟨es, clock, hb, F, by omega, hD⟩
theorem Mw.fr {w w' : World} {Q : Nat → Prop} {b : Nat} {l : Sl} (h : Mw w b l) (hf : Fr Q w w') (hq : ¬ Q b) : Mw w' b l := by
  have hlt := h.lt
  obtain ⟨es, clock, hb, r⟩ := h
  exact ⟨es, clock, (hf.heap hlt hq).trans hb, r⟩
theorem Mw.below {w w' : World} {b : Nat} {l : Sl} (h : Mw w b l) (hb : Below w.heap.size w w') : Mw w' b l := h.fr (Q := fun _ => False) (Fr.ofBelow hb) (fun x => x)
theorem Mw.made (w : World) : Mw (w.alloc (.map #[] 0)) w.heap.size [] := World.ownsMap_made w _ _ _
theorem fr_turned {w w' : World} {b : Nat} (h : w.mapTurned w' b) : Fr (fun k => k = b) w w' := by
  have h := h.grown
  exact ⟨h.os, h.tape, h.output, h.size, fun k hk hn => h.block k hk (fun e => hn (Option.some.inj e))⟩
theorem fr_by {w w' : World} {row : Option Nat} (h : w.grownBy w' row) : Fr (fun k => row = some k) w w' :=
  ⟨h.os, h.tape, h.output, h.size, fun k hk hn => h.block k hk (fun e => hn e.symm)⟩
theorem zeroV (w : World) : (zeroValue 63).run Tryz.prog w = .ok (vV ⟨0, []⟩) w := by kernel_rfl
theorem vE_inv {v : Value} {y : DataW Unit × List MemPlace} (h : vE v = some y) : ∃ (b : Int) (s : ByteArray), v = .agg #[.int .i64 b, .string s] ∧ y = (.agg [.lit (.int .i64 b), .lit (.string s.data.toList)], []) := by
  unfold vE at h
  split at h
  · cases h; exact ⟨_, _, rfl, rfl⟩
  · cases h
theorem vE_is {v : Value} {x : V} {ps : List MemPlace} (h : vE v = some (vD x, ps)) : v = vV x := by
  obtain ⟨b, s, rfl, hy⟩ := vE_inv h
  simp only [vD, Prod.mk.injEq, DataW.agg.injEq, List.cons.injEq, DataW.lit.injEq, Lit.int.injEq, Lit.string.injEq, true_and, and_true] at hy
  obtain ⟨⟨h1, h2⟩, -⟩ := hy
  unfold vV
  rw [← h1, h2]
end Go.Proofs.YthmedpabgblddabGreatDoor.Tm

namespace Go.Proofs.YthmedpabgblddabGreatDoor.Ta
open Go.RowKit Kt Dk Tp Tm Pl Cs Cf Se Rd
set_option linter.unusedVariables false
set_option maxRecDepth 20000

/-- Block S is a store's: its log at B, its disk at D, its map at Mb. -/
structure Sm (w : World) (S B D Mb per : Nat) (m : M) : Prop where
  heap : w.heap[S]? = some (.cells #[.int .i64 (per : Int), .pointer (some ⟨B, 0, none⟩), .pointer (some ⟨D, 0, none⟩), .int .i64 (m.pr : Int), .int .i64 (m.ba : Int), .map (some Mb)] 48 (0, 0))
  mp : Mw w Mb m.sl
  ne : S ≠ Mb
section
variable {w : World} {S B D Mb per : Nat} {m : M}
theorem Sm.c0 (h : Sm w S B D Mb per m) : w.cell? ⟨S, 0, none⟩ = some (.int .i64 (per : Int)) := by rw [cell_of_row _ _ _ _ _ _ h.heap]; rfl
theorem Sm.c1 (h : Sm w S B D Mb per m) : w.cell? ⟨S, 1, none⟩ = some (.pointer (some ⟨B, 0, none⟩)) := by rw [cell_of_row _ _ _ _ _ _ h.heap]; rfl
theorem Sm.c2 (h : Sm w S B D Mb per m) : w.cell? ⟨S, 2, none⟩ = some (.pointer (some ⟨D, 0, none⟩)) := by rw [cell_of_row _ _ _ _ _ _ h.heap]; rfl
theorem Sm.c3 (h : Sm w S B D Mb per m) : w.cell? ⟨S, 3, none⟩ = some (.int .i64 (m.pr : Int)) := by rw [cell_of_row _ _ _ _ _ _ h.heap]; rfl
theorem Sm.c4 (h : Sm w S B D Mb per m) : w.cell? ⟨S, 4, none⟩ = some (.int .i64 (m.ba : Int)) := by rw [cell_of_row _ _ _ _ _ _ h.heap]; rfl
theorem Sm.c5 (h : Sm w S B D Mb per m) : w.cell? ⟨S, 5, none⟩ = some (.map (some Mb)) := by rw [cell_of_row _ _ _ _ _ _ h.heap]; rfl
theorem Sm.fz (h : Sm w S B D Mb per m) (k : Nat) : w.frozen? ⟨S, k, none⟩ = false := frozen_of_row w S k _ _ h.heap
theorem Sm.slt (h : Sm w S B D Mb per m) : S < w.heap.size := block_lt h.heap
theorem Sm.mlt (h : Sm w S B D Mb per m) : Mb < w.heap.size := h.mp.lt
theorem Sm.fr {w' : World} {Q : Nat → Prop} (h : Sm w S B D Mb per m) (hf : Fr Q w w') (hs : ¬ Q S) (hm : ¬ Q Mb) : Sm w' S B D Mb per m :=
  ⟨(hf.heap h.slt hs).trans h.heap, h.mp.fr hf hm, h.ne⟩
theorem Sm.below {w' : World} (h : Sm w S B D Mb per m) (hb : Below w.heap.size w w') : Sm w' S B D Mb per m := h.fr (Q := fun _ => False) (Fr.ofBelow hb) (fun x => x) (fun x => x)
theorem fr_cell (h : Sm w S B D Mb per m) (i : Nat) (u : Value) : Fr (fun k => k = S) w (w.setCell ⟨S, i, none⟩ u) := by
  rw [setCell_eq_setRow w S i _ _ (0, 0) _ h.heap]
  exact (Fr.refl (fun k => k = S) w).setRow (b := S) (.inl rfl) _
theorem Sm.set3 (h : Sm w S B D Mb per m) (p : Nat) : Sm (w.setCell ⟨S, 3, none⟩ (.int .i64 (p : Int))) S B D Mb per { m with pr := p } := by
  have hf := fr_cell h 3 (.int .i64 (p : Int))
  refine ⟨?_, h.mp.fr hf (fun e => h.ne e.symm), h.ne⟩
  rw [setCell_eq_setRow w S 3 _ _ (0, 0) _ h.heap]
  exact setRow_heap _ _ _ _ _ _ h.heap
theorem Sm.set4 (h : Sm w S B D Mb per m) (p : Nat) : Sm (w.setCell ⟨S, 4, none⟩ (.int .i64 (p : Int))) S B D Mb per { m with ba := p } := by
  have hf := fr_cell h 4 (.int .i64 (p : Int))
  refine ⟨?_, h.mp.fr hf (fun e => h.ne e.symm), h.ne⟩
  rw [setCell_eq_setRow w S 4 _ _ (0, 0) _ h.heap]
  exact setRow_heap _ _ _ _ _ _ h.heap
theorem Sm.set1 (h : Sm w S B D Mb per m) (B' : Nat) : Sm (w.setCell ⟨S, 1, none⟩ (.pointer (some ⟨B', 0, none⟩))) S B' D Mb per m := by
  have hf := fr_cell h 1 (.pointer (some ⟨B', 0, none⟩))
  refine ⟨?_, h.mp.fr hf (fun e => h.ne e.symm), h.ne⟩
  rw [setCell_eq_setRow w S 1 _ _ (0, 0) _ h.heap]
  exact setRow_heap _ _ _ _ _ _ h.heap
end

theorem isMade_any (w : World) (S B : Nat) (h : w.cell? ⟨S, 1, none⟩ = some (.pointer (some ⟨B, 0, none⟩))) :
    Calls Tryz.prog 20 #[.pointer (some ⟨S, 0, none⟩)] w fun e w' => e = .returned (.bool true) ∧ w' = w := by
  go_enter Tryz.func20, Tryz.ntmps20
  go_wp2
  go_ret
  exact ⟨rfl, rfl⟩

theorem isMade_not (w : World) (S : Nat) (h : w.cell? ⟨S, 1, none⟩ = some (.pointer none)) :
    Calls Tryz.prog 20 #[.pointer (some ⟨S, 0, none⟩)] w fun e w' => e = .returned (.bool false) ∧ w' = w := by
  go_enter Tryz.func20, Tryz.ntmps20
  go_wp2
  go_ret
  exact ⟨rfl, rfl⟩

theorem isMade_nil (w : World) :
    Calls Tryz.prog 20 #[.pointer none] w fun e w' => e = .returned (.bool false) ∧ w' = w := by
  go_enter Tryz.func20, Tryz.ntmps20
  go_wp2
  go_ret
  exact ⟨rfl, rfl⟩

def isN (n : Int) : Bool := decide (0 ≤ n ∧ n ≤ 1099511627776)

theorem isNumber_any (w : World) (n : Int) :
    Calls Tryz.prog 22 #[.int .i64 n] w fun e w' => e = .returned (.bool (isN n)) ∧ w' = w := by
  by_cases h : 0 ≤ n
  · have h1 : decide (0 ≤ n) = true := by simpa using h
    by_cases h2 : n ≤ 1099511627776
    · have h3 : decide (n ≤ 1099511627776) = true := by simpa using h2
      have e : isN n = true := by simp [isN, h, h2]
      rw [e]
      clear e
      go_enter Tryz.func22, Tryz.ntmps22
      go_wp2
      go_ret
      exact ⟨rfl, rfl⟩
    · have h3 : decide (n ≤ 1099511627776) = false := by simpa using h2
      have e : isN n = false := by simp [isN, h2]
      rw [e]
      clear e
      go_enter Tryz.func22, Tryz.ntmps22
      go_wp2
      go_ret
      exact ⟨rfl, rfl⟩
  · have h1 : decide (0 ≤ n) = false := by simpa using h
    have e : isN n = false := by simp [isN, h]
    rw [e]
    clear e
    go_enter Tryz.func22, Tryz.ntmps22
    go_wp2
    go_ret
    exact ⟨rfl, rfl⟩

/-- 'b[:k]', 'b[k:]'. -/
theorem run_high (W : World) (ao : Option Addr) (n c k : Nat) (hk : k ≤ c) : (Instr.slice 30 (.slice ao n c) none (some (.int .i64 (k : Int))) none).run Tryz.prog W = .ok (.slice ao k c) W := by
  have b1 : ∀ x, (Instr.sliceBound (.int .i64 (k : Int)) c x).run Tryz.prog W = .ok k W := fun x => by simp [Instr.sliceBound, asIntOf, hk]
  obtain ⟨i, hi, hz, hs, hby⟩ := info_parts Da.info5
  have e : (if c = 0 then ao else Option.map (fun x => x.add (0 * i.size)) ao) = ao := by
    cases ao with
    | none => split <;> rfl
    | some a =>
      split
      · rfl
      · obtain ⟨b, o, sp⟩ := a
        cases sp <;> simp [Addr.add]
  have hsz : (sizeOf 5).run Tryz.prog W = .ok i.size W := by simp [sizeOf, typeInfo, hi]
  simp only [Instr.slice, Sem.run_bind, run_underlying Tryz.underlying30, Instr.sliceBounds, Result.andThen_ok, b1, Sem.run_pure, hsz]
  simp only [Nat.sub_zero, e]
theorem run_low (W : World) (ao : Option Addr) (n c k : Nat) (hk : k ≤ n) (hc : n ≤ c) : (Instr.slice 30 (.slice ao n c) (some (.int .i64 (k : Int))) none none).run Tryz.prog W = .ok (.slice (if c = k then ao else ao.map (fun x => x.add k)) (n - k) (c - k)) W := by
  have b1 : ∀ x, (Instr.sliceBound (.int .i64 (k : Int)) n x).run Tryz.prog W = .ok k W := fun x => by simp [Instr.sliceBound, asIntOf, hk]
  obtain ⟨i, hi, hz, hs, hby⟩ := info_parts Da.info5
  have hsz : (sizeOf 5).run Tryz.prog W = .ok i.size W := by simp [sizeOf, typeInfo, hi]
  simp only [Instr.slice, Sem.run_bind, run_underlying Tryz.underlying30, Instr.sliceBounds, Result.andThen_ok, b1, Sem.run_pure, hsz, hs, Nat.mul_one]
theorem Row_low {w : World} {ao : Option Addr} {bs t : List UInt8} {c k : Nat} (h : Row w ao (bs ++ t)) (hk : bs.length = k) (hc : (bs ++ t).length ≤ c) : Row w (if c = k then ao else ao.map (fun x => x.add k)) t := fun h0 => by
  rw [List.length_append] at hc
  obtain ⟨b, off, rfl, hh⟩ := h (by simp; omega)
  rw [if_neg (by omega)]
  refine ⟨b, off + k, by simp [Addr.add_lit], fun i hi => ?_⟩
  have := hh (k + i) (by simp; omega)
  rw [Nat.add_assoc, this]
  subst hk
  simp only [List.getD]
  rw [List.getElem?_append_right (by omega), Nat.add_sub_cancel_left]

/-- Block R is a reader that has these bytes, which lie in no block of Q. -/
def Rdr (w : World) (R : Nat) (Q : Nat → Prop) (bs : List UInt8) : Prop :=
  ∃ ao cap, w.heap[R]? = some (.cells #[.slice ao bs.length cap] 83 (0, 0)) ∧ Row w ao bs ∧ bs.length ≤ cap ∧ cap ≤ 9223372036854775807 ∧ ∀ b off, ao = some ⟨b, off, none⟩ → 0 < bs.length → ¬ Q b
theorem Rdr.fr {w w' : World} {R : Nat} {Q G : Nat → Prop} {bs : List UInt8} (h : Rdr w R Q bs) (hf : Fr G w w') (hR : ¬ G R) (hG : ∀ k, G k → Q k) : Rdr w' R Q bs := by
  obtain ⟨ao, cap, h1, h2, h3, h4, h5⟩ := h
  exact ⟨ao, cap, (hf.heap (block_lt h1) hR).trans h1, Sk.row_fr h2 hf (fun h0 b off e x => h5 b off e h0 (hG b x)), h3, h4, h5⟩

theorem num_any (w : World) (R : Nat) (Q : Nat → Prop) (n : Nat) (t : List UInt8) (h : Rdr w R Q (enc n ++ t)) (hQ : Q R) (hn : n ≤ 4611686018427387904) (hl : (enc n ++ t).length ≤ 1000000) :
    Calls Tryz.prog 55 #[.pointer (some ⟨R, 0, none⟩)] w fun e w' => e = .returned (.int .i64 (n : Int)) ∧ Rdr w' R Q t ∧ Fr (fun k => k = R) w w' := by
  obtain ⟨ao, cap, h1, h2, h3, h4, h5⟩ := h
  obtain ⟨b0, off0, hao, -⟩ := id h2 (by have := enc_len_pos n; simp; omega)
  have c0 : w.cell? ⟨R, 0, none⟩ = some (.slice ao (enc n ++ t).length cap) := by rw [cell_of_row _ _ _ _ _ _ h1]; rfl
  have f0 := frozen_of_row w R 0 _ _ h1
  have hr := readNum_any w ao cap (enc n ++ t) h2 (by omega)
  rw [readNum_enc hn] at hr
  have hlow := fun W => run_low W ao (enc n ++ t).length cap (enc n).length (by simp) h3
  have hrl := Row_low (c := cap) h2 (rfl) h3
  have he : (enc n ++ t).length - (enc n).length = t.length := by simp
  have hcc : t.length ≤ cap - (enc n).length := by rw [List.length_append] at h3; omega
  have h55 : 0 < t.length → ∀ b off, ao = some ⟨b, off, none⟩ → ¬ Q b := fun h0 b off e => h5 b off e (by simp; omega)
  rw [he] at hlow
  have HH := mkH h1
  have HR := mkH hrl
  have H5 := mkH h55
  have HC := mkH hcc
  clear h1 h2 h3 hrl h5 h55 he hcc
  generalize (enc n ++ t).length = L at *
  generalize (enc n).length = k at *
  subst hao
  generalize hao2 : (if cap = k then (some ⟨b0, off0, none⟩ : Option Addr) else (some ⟨b0, off0, none⟩ : Option Addr).map (fun x => x.add k)) = ao2 at *
  go_enter Tryz.func55, Tryz.ntmps55
  go_wp2_with fail
  refine hr.mono ?_
  rintro e w1 ⟨rfl, hw⟩
  have hw2 := hw.symm
  subst hw2
  clear hw
  simp only [ans]
  go_wp2
  go_ret
  have hs := setCell_eq_setRow w R 0 _ _ (0, 0) (.slice ao2 t.length (cap - k)) HH.out
  have hf : Fr (fun q => q = R) w (w.setCell ⟨R, 0, none⟩ (.slice ao2 t.length (cap - k))) := by
    rw [hs]; exact (Fr.refl (fun k => k = R) w).setRow (b := R) (.inl rfl) _
  have h6 : ∀ b off, ao2 = some ⟨b, off, none⟩ → 0 < t.length → ¬ Q b := fun b off e h0 => by
    rw [← hao2] at e
    split at e
    · exact H5.out h0 b off e
    · simp only [Option.map, Addr.add_lit, Option.some.injEq, Addr.mk.injEq] at e
      obtain ⟨rfl, -, -⟩ := e
      exact H5.out h0 _ _ rfl
  refine ⟨rfl, ⟨ao2, cap - k, by rw [hs]; exact setRow_heap _ _ _ _ _ _ HH.out, Sk.row_fr HR.out hf (fun h0 b off e x => h6 b off e h0 (by rw [x]; exact hQ)), HC.out, by omega, h6⟩, hf⟩
end Go.Proofs.YthmedpabgblddabGreatDoor.Ta

namespace Go.Proofs.YthmedpabgblddabGreatDoor.Tb0
open Go.RowKit Kt Dk Tp Tm Pl Cs Cf Cv Se Rd Wr Ta
set_option linter.unusedVariables false
set_option maxRecDepth 20000

def flat (ns : List Nat) : List UInt8 := (ns.map enc).flatten
theorem flat_snoc (l : List Nat) (n : Nat) : flat (l ++ [n]) = flat l ++ enc n := by simp [flat]
theorem flat_take {ns : List Nat} {j : Nat} (h : j < ns.length) : flat (ns.take (j + 1)) = flat (ns.take j) ++ enc (ns.getD j 0) := by
  rw [List.take_add_one, List.getElem?_eq_getElem h, Option.toList_some, flat_snoc]
  simp [List.getD, List.getElem?_eq_getElem h]

set_option maxHeartbeats 1000000 in
theorem addNums_any (w : World) (base : Nat) (ao0 : Option Addr) (cap0 : Nat) (bs : List UInt8) (hown : w.ownsRow base 5 1 (.slice ao0 bs.length cap0) bs.length (U bs)) (hbase : base ≤ w.heap.size) (hbl : bs.length ≤ 100000) (nb : Nat) (ns : List Nat) (cap : Nat) (hns : ns.length ≤ 3)
    (hc : ∀ i, i < ns.length → w.cell? ⟨nb, i, none⟩ = some (.int .i64 ((ns.getD i 0 : Nat) : Int))) (hn : ∀ x ∈ ns, x ≤ 4611686018427387904) (hne : (Value.slice ao0 bs.length cap0).ownBlock ≠ some nb) :
    Calls Tryz.prog 24 #[.slice ao0 bs.length cap0, .slice (some ⟨nb, 0, none⟩) ns.length cap] w fun e w' => ∃ ao cap1, e = .returned (.slice ao (bs ++ flat ns).length cap1) ∧ w'.ownsRow base 5 1 (.slice ao (bs ++ flat ns).length cap1) (bs ++ flat ns).length (U (bs ++ flat ns)) ∧
      Fr (fun k => (Value.slice ao0 bs.length cap0).ownBlock = some k) w w' ∧ ((Value.slice ao (bs ++ flat ns).length cap1).ownBlock = (Value.slice ao0 bs.length cap0).ownBlock ∨ ∃ q, (Value.slice ao (bs ++ flat ns).length cap1).ownBlock = some q ∧ w.heap.size ≤ q) := by
  obtain ⟨v0, hv0⟩ : ∃ v0, Value.slice ao0 bs.length cap0 = v0 := ⟨_, rfl⟩
  rw [hv0] at hown hne ⊢
  have HOW := mkH hown
  have HC := mkH hc
  have HN := mkH hn
  clear hown hc hn
  have hnbl : Hid (0 < ns.length → nb < w.heap.size) := fun h => World.block_lt_of_cell? w _ (HC.out 0 h)
  go_enter Tryz.func24, Tryz.ntmps24
  go_wp2_with fail
  go_loopw [0, 11] (fun bv i wr => ∃ (j : Nat) (ao : Option Addr) (cp : Nat), j ≤ ns.length ∧ i = .int .i64 (j : Int) ∧ bv = .slice ao (bs ++ flat (ns.take j)).length cp ∧ Hid (wr.ownsRow base 5 1 (.slice ao (bs ++ flat (ns.take j)).length cp) (bs ++ flat (ns.take j)).length (U (bs ++ flat (ns.take j)))) ∧ (bs ++ flat (ns.take j)).length ≤ 100000 + 9 * j ∧
      Hid (Fr (fun k => v0.ownBlock = some k) w wr ∧ ((Value.slice ao (bs ++ flat (ns.take j)).length cp).ownBlock = v0.ownBlock ∨ ∃ q, (Value.slice ao (bs ++ flat (ns.take j)).length cp).ownBlock = some q ∧ w.heap.size ≤ q)))
    (fun _ i _ => ns.length - (intOf i).toNat)
  case atStart => exact ⟨0, ao0, cap0, Nat.zero_le _, rfl, by rw [List.take_zero]; simp [flat, hv0], by rw [List.take_zero]; simp only [flat, List.map_nil, List.flatten_nil, List.append_nil]; rw [hv0]; exact HOW.out, by simp [flat]; omega, by rw [List.take_zero]; simp only [flat, List.map_nil, List.flatten_nil, List.append_nil]; rw [hv0]; exact ⟨Fr.refl _ _, .inl rfl⟩⟩
  case round =>
    obtain ⟨j, ao, cp, hj, rfl, rfl, HO, hL, HF⟩ := hrel
    rcases Nat.lt_or_ge j ns.length with hjl | hjl
    · have hcj : wr.cell? ⟨nb, j, none⟩ = some (.int .i64 ((ns.getD j 0 : Nat) : Int)) := by
        rw [← HC.out j hjl]
        exact World.cell?_of_block (w := w) (HF.out.1.heap (hnbl.out (by omega)) hne)
      have hnj : ns.getD j 0 ≤ 4611686018427387904 := HN.out _ (by simp [List.getD, hjl])
      have e1 := flat_take hjl
      obtain ⟨L, hLL⟩ : ∃ L, (bs ++ flat (ns.take j)).length = L := ⟨_, rfl⟩
      have e2 : (bs ++ flat (ns.take (j + 1))).length = L + (enc (ns.getD j 0)).length := by rw [e1, ← List.append_assoc, List.length_append, hLL]
      have e9 := enc_len9 hnj
      have HE1 := mkH e1
      have HE2 := mkH e2
      have hnum := num_ok wr none 0 (ns.getD j 0) [] (Row.nil _ _) (by simp) hnj
      rw [hLL] at HO HF hL ⊢
      generalize hx : ns.getD j 0 = x at *
      simp only [List.length_nil, Nat.zero_add, List.nil_append] at hnum
      clear e1 e2
      go_wp2_with fail
      refine hnum.mono ?_
      rintro e w1 ⟨v1, rfl, ho1, hb1⟩
      obtain ⟨a1, c1, rfl, -, hc1, hr1⟩ := own_row ho1
      have HO1 := mkH (own_below HO.out hb1)
      have hbw1 : base ≤ w1.heap.size := Nat.le_trans hbase (Nat.le_trans HF.out.1.size hb1.size)
      have hsrc := hr1.src (P := Tryz.prog) Tryz.underlying30 c1
      have HS := mkH hsrc
      have HFx := HF.out.1.trans (Fr.ofBelow (F := fun _ => False) hb1) (fun _ x => x.elim)
      have hs1 := hb1.size
      clear ho1 hr1 hsrc hcj hnum HO
      go_wp2_with (at_builtin; refine (wpList_append_own_src_at _ rfl (.tmp 20) (.tmp 21) 30 30 rfl base 5 (.int .u8 0) 1 1 Tryz.underlying30 Da.info5 rfl (by decide) _ _ _ rfl HO1.out _ (enc x).length (U (enc x)) rfl HS.out ?h63 ?hby ?hbs ?_))
      case h63 => unfold maxLen; omega
      case hby => omega
      case hbs => omega
      intro v7 w7 hown7 hgrow7 hblk7
      obtain ⟨a7, c7, rfl⟩ := own_form hown7
      have hfin : Hid (w7.ownsRow base 5 1 (.slice a7 (bs ++ flat (ns.take (j + 1))).length c7) (bs ++ flat (ns.take (j + 1))).length (U (bs ++ flat (ns.take (j + 1))))) := by
        show World.ownsRow _ _ _ _ _ _ _
        rw [HE2.out, HE1.out, ← List.append_assoc, U_append]
        exact hown7
      have hfr : Hid (Fr (fun k => v0.ownBlock = some k) w w7 ∧ ((Value.slice a7 (bs ++ flat (ns.take (j + 1))).length c7).ownBlock = v0.ownBlock ∨ ∃ q, (Value.slice a7 (bs ++ flat (ns.take (j + 1))).length c7).ownBlock = some q ∧ w.heap.size ≤ q)) := by
        refine ⟨HFx.trans (fr_by hgrow7) (fun i hi => ?_), ?_⟩
        · rcases HF.out.2 with y | ⟨q, y, hq⟩
          · left; rw [← y]; exact hi
          · right; rw [hi] at y; cases y; exact hq
        · rw [HE2.out]
          rcases hblk7 with y | y
          · rw [y]
            exact HF.out.2
          · exact .inr ⟨_, y, by have := HF.out.1.size; omega⟩
      clear hown7 hgrow7 hblk7 HO1 HS HFx
      go_wp2
      go_roundw
      case rel => exact ⟨j + 1, a7, c7, by omega, by go_num, by rw [HE2.out], hfin, by rw [HE2.out]; omega, hfr⟩
      case measure => simp [intOf]; omega
    · have hjn : j = ns.length := by omega
      subst hjn
      rw [List.take_length] at HO HF hL ⊢
      have hd : decide ((ns.length : Int) < (ns.length : Int)) = false := by simp
      obtain ⟨L, hLf⟩ : ∃ L, (bs ++ flat ns).length = L := ⟨_, rfl⟩
      have HLF := mkH hLf
      rw [hLf] at HO HF hL ⊢
      clear hLf
      go_wp2
      go_ret
      rw [HLF.out]
      exact ⟨ao, cp, rfl, HO.out, HF.out⟩

theorem raise_any {w : World} {S B D Mb per : Nat} {m : M} (h : Sm w S B D Mb per m) (b : Nat) (hb : b ≤ 4611686018427387904) (hp : m.pr ≤ 4611686018427387904) :
    Calls Tryz.prog 61 #[.pointer (some ⟨S, 0, none⟩), .int .i64 (b : Int)] w fun e w' => (∃ v, e = .returned v) ∧ Sm w' S B D Mb per { m with pr := max m.pr b } ∧ Fr (fun k => k = S) w w' := by
  have c3 := h.c3
  have f3 := h.fz 3
  by_cases hlt : m.pr < b
  · have e : max m.pr b = b := by omega
    have HH := mkH (And.intro (h.set3 b) (fr_cell h 3 (.int .i64 (b : Int))))
    rw [e]
    clear h e
    go_enter Tryz.func61, Tryz.ntmps61
    go_wp2
    refine bodyPost_end (results_none rfl _ _ _) rfl ?_
    exact ⟨⟨_, rfl⟩, HH.out⟩
  · have e : max m.pr b = m.pr := by omega
    have HH := mkH (And.intro (h.set3 m.pr) (fr_cell h 3 (.int .i64 (m.pr : Int))))
    rw [e]
    clear h e
    go_enter Tryz.func61, Tryz.ntmps61
    go_wp2
    refine bodyPost_end (results_none rfl _ _ _) rfl ?_
    exact ⟨⟨_, rfl⟩, HH.out⟩

/-- A string that is cut from bytes. -/
theorem str_any {W : World} {ao : Option Addr} {bs : List UInt8} (h : Row W ao bs) (c : Nat) : (convert 30 9 (.slice ao bs.length c)).run Tryz.prog W = .ok (.string (Kt.S bs)) W := run_string Tryz.underlying30 Tryz.underlying5 Tryz.underlying9 h c

theorem Row_pre {w : World} {ao : Option Addr} {a b : List UInt8} (h : Row w ao (a ++ b)) : Row w ao a := fun h0 => by
  obtain ⟨x, off, e, hc⟩ := h (by simp; omega)
  refine ⟨x, off, e, fun i hi => ?_⟩
  rw [hc i (by simp; omega)]
  simp only [List.getD]
  rw [List.getElem?_append_left hi]

set_option maxHeartbeats 1000000 in
theorem text_any (w : World) (R : Nat) (Q : Nat → Prop) (a t : List UInt8) (h : Rdr w R Q (a ++ t)) (hQ : Q R) (hl : (a ++ t).length ≤ 1000000) :
    Calls Tryz.prog 56 #[.pointer (some ⟨R, 0, none⟩), .int .i64 (a.length : Int)] w fun e w' => e = .returned (.string (Kt.S a)) ∧ Rdr w' R Q t ∧ Fr (fun k => k = R) w w' := by
  obtain ⟨ao, cap, h1, h2, h3, h4, h5⟩ := h
  have c0 : w.cell? ⟨R, 0, none⟩ = some (.slice ao (a ++ t).length cap) := by rw [cell_of_row _ _ _ _ _ _ h1]; rfl
  have f0 := frozen_of_row w R 0 _ _ h1
  have hal : a.length ≤ (a ++ t).length := by simp
  have hlow := fun W => run_low W ao (a ++ t).length cap a.length hal h3
  have hhigh := fun W => run_high W ao (a ++ t).length cap a.length (by omega)
  have hstr := str_any (Row_pre h2) cap
  have hrl := Row_low (c := cap) h2 (rfl) h3
  have he : (a ++ t).length - a.length = t.length := by simp
  have hcc : t.length ≤ cap - a.length := by rw [List.length_append] at h3; omega
  have h55 : 0 < t.length → ∃ b off, ao = some ⟨b, off, none⟩ ∧ ¬ Q b := fun h0 => by
    obtain ⟨b, off, e, -⟩ := h2 (by simp; omega)
    exact ⟨b, off, e, h5 b off e (by simp; omega)⟩
  rw [he] at hlow
  have HH := mkH h1
  have HR := mkH hrl
  have H5 := mkH h55
  have HC := mkH hcc
  clear h1 h2 h3 hrl h5 h55 he hcc
  have hmin : (if ((a ++ t).length : Int) < (a.length : Int) then ((a ++ t).length : Int) else (a.length : Int)) = (a.length : Int) := by rw [if_neg (by omega)]
  have hdec : ¬ ((a ++ t).length < a.length) := by omega
  generalize (a ++ t).length = L at *
  generalize hk : a.length = k at *
  generalize hao2 : (if cap = k then ao else ao.map (fun x => x.add k)) = ao2 at *
  go_enter Tryz.func56, Tryz.ntmps56
  go_wp2
  go_ret
  have hs := setCell_eq_setRow w R 0 _ _ (0, 0) (.slice ao2 t.length (cap - k)) HH.out
  have hf : Fr (fun q => q = R) w (w.setCell ⟨R, 0, none⟩ (.slice ao2 t.length (cap - k))) := by
    rw [hs]; exact (Fr.refl (fun k => k = R) w).setRow (b := R) (.inl rfl) _
  have h6 : ∀ b off, ao2 = some ⟨b, off, none⟩ → 0 < t.length → ¬ Q b := fun b off e h0 => by
    obtain ⟨b', off', e', hq⟩ := H5.out h0
    rw [← hao2, e'] at e
    split at e
    · cases e; exact hq
    · simp only [Option.map, Addr.add_lit, Option.some.injEq, Addr.mk.injEq] at e
      obtain ⟨rfl, -, -⟩ := e
      exact hq
  refine ⟨rfl, ⟨ao2, cap - k, by rw [hs]; exact setRow_heap _ _ _ _ _ _ HH.out, Sk.row_fr HR.out hf (fun h0 b off e x => h6 b off e h0 (by rw [x]; exact hQ)), HC.out, by omega, h6⟩, hf⟩
end Go.Proofs.YthmedpabgblddabGreatDoor.Tb0

namespace Go.Proofs.YthmedpabgblddabGreatDoor.Tc
open Go.RowKit Kt Dk Tp Tm Pl Cs Cf Cv Se Rd Wr Ta Tb0 Go.Maps
set_option linter.unusedVariables false
set_option maxRecDepth 20000

/-- A key that comes is a slot. -/
theorem key_of {l : Sl} {kl : Lit} {y : DataW Unit} (h : ∀ z, (Dm l).atKey kl z = y) : ∃ k v, kl = kL k ∧ atS l k = some v := by
  have h1 := Maps.has_true_of_atKey h
  unfold Dm at h1
  rw [Maps.has_eq, List.any_eq_true] at h1
  obtain ⟨p, hp, hs⟩ := h1
  obtain ⟨q, hq, rfl⟩ := List.mem_map.1 hp
  have hk : kl = kL q.1 := (WideAt.sameKey_eq hs).symm
  subst hk
  have : Maps.has (Dm l) (kL q.1) = true := by
    unfold Dm; rw [Maps.has_eq, List.any_eq_true]; exact ⟨_, hp, hs⟩
  rw [Dm_has] at this
  obtain ⟨v, hv⟩ := Option.isSome_iff_exists.1 this
  exact ⟨q.1, v, rfl, hv⟩
theorem inv_key {x : Int} {kl : Lit} (h : keyOf Tryz.prog 3 (.int .i64 x) = some kl) : kl = .int .i64 x := by
  obtain ⟨x', e, rfl, -⟩ := Maps.keyOf_int_inv Tryz.underlying3 h
  cases e; rfl
theorem invK (key : Value) (kl : Lit) (h : keyOf Tryz.prog 3 key = some kl) : ∃ x, key = Value.int .i64 x := by
  obtain ⟨x, rfl, -⟩ := Maps.keyOf_int_inv Tryz.underlying3 h
  exact ⟨x, rfl⟩
/-- What is left of a map while it is swept. -/
def swp (b : Nat) (l : Sl) (left : Lit → Bool) : Sl := l.filter (fun p => decide (b ≤ p.1) || left (kL p.1))
theorem swp_start (b : Nat) (l : Sl) : swp b l (Maps.has (Dm l)) = l := by
  refine List.filter_eq_self.2 (fun p hp => ?_)
  have : Maps.has (Dm l) (kL p.1) = true := by
    unfold Dm; rw [Maps.has_eq, List.any_eq_true]
    exact ⟨eD p, List.mem_map.2 ⟨p, hp, rfl⟩, by simp only [eD, kL_same]; simp⟩
  simp [this]
theorem swp_end (b : Nat) (l : Sl) {left : Lit → Bool} (h : ∀ kl, left kl = false) : swp b l left = l.filter (fun p => decide (b ≤ p.1)) := by
  unfold swp
  refine List.filter_congr (fun p _ => ?_)
  simp [h]
theorem swp_stay {b : Nat} {l : Sl} {left : Lit → Bool} {k : Nat} (h : b ≤ k) : swp b l (fun z => left z && !z.sameKey (kL k)) = swp b l left := by
  unfold swp
  refine List.filter_congr (fun p _ => ?_)
  simp only [kL_same]
  by_cases e : p.1 = k
  · simp [e, h]
  · simp [e]
theorem swp_gone {b : Nat} {l : Sl} {left : Lit → Bool} {k : Nat} (h : ¬ b ≤ k) : (swp b l left).filter (fun p => decide (p.1 ≠ k)) = swp b l (fun z => left z && !z.sameKey (kL k)) := by
  unfold swp
  rw [List.filter_filter]
  refine List.filter_congr (fun p _ => ?_)
  simp only [kL_same]
  by_cases e : p.1 = k
  · subst e; simp; omega
  · simp [e]
theorem atS_swp {b : Nat} {l : Sl} {left : Lit → Bool} {k : Nat} {v : V} (h : atS (swp b l left) k = some v) : (k, v) ∈ l := (List.mem_filter.1 (atS_mem h)).1

set_option maxHeartbeats 2000000 in
theorem forget_any {w : World} {S B D Mb per : Nat} {m : M} (h : Sm w S B D Mb per m) (n : Nat) (hn : n ≤ 4611686018427387904) (hp : m.ba ≤ 4611686018427387904) (hmk : ∀ p ∈ m.sl, p.1 ≤ 4611686018427387904) :
    Calls Tryz.prog 62 #[.pointer (some ⟨S, 0, none⟩), .int .i64 (n : Int)] w fun e w' => (∃ v, e = .returned v) ∧ Sm w' S B D Mb per { m with ba := max m.ba n, sl := m.sl.filter (fun p => decide (max m.ba n ≤ p.1)) } ∧ Fr (fun k => k = S ∨ k = Mb) w w' := by
  have c4 := h.c4
  have f4 := h.fz 4
  have HMK := mkH hmk
  clear hmk
  by_cases hlt : m.ba < n
  · have hltd := hlt
    have HS := mkH (h.set4 n)
    have HF0 := mkH (fr_cell h 4 (.int .i64 (n : Int)))
    have hme : max m.ba n = n := by omega
    rw [hme]
    have c4' := HS.out.c4
    have c5' := HS.out.c5
    have hown := HS.out.mp
    have hmk := HMK.out
    clear hme
    simp only at c4' hown
    go_enter Tryz.func62, Tryz.ntmps62
    go_wp2_with (first
      | (at_range; refine wpList_range_own _ rfl _ 46 rfl 3 63 law Tryz.underlying46 vE Mb m.sl.length _ rfl hown ?_; intro w0 hrg0 hg0 hs0)
      | go_in)
    go_frame
    generalize w.setCell ⟨S, 4, none⟩ (.int .i64 (n : Int)) = w1 at *
    have HS0 := mkH (HS.out.heap)
    have hws : S < w1.heap.size := HS.out.slt
    have hwm : Mb < w1.heap.size := HS.out.mlt
    have HG := mkH (fr_by hg0)
    have H5 := mkH hs0
    clear hown hg0 hs0 c4' c5'
    go_loopw [4] (fun _ wr => ∃ (left : Lit → Bool) (cnt : Nat), wr.ranges Tryz.prog 3 vE Mb w1.heap.size m.sl.length (Dm (swp n m.sl left)) left cnt ∧ Hid (Fr (fun k => k = Mb) w1 wr))
      (fun _ wr => wr.rangeLeft Mb w1.heap.size)
    case atStart => exact ⟨_, _, by rw [swp_start]; exact hrg0, HG.out.mono (fun k hk => by cases hk)⟩
    case round =>
      clear hrg0
      obtain ⟨left, cnt, hrg, HW⟩ := hrel
      have HRW := mkH hrg
      go_wp2_with (first
        | (at_next; refine wpList_next_ranges _ rfl _ rfl 3 law vE (Value.int .i64) id invK (fun v _ _ => ⟨v, rfl⟩) Mb w1.heap.size m.sl.length _ _ _ rfl hrg ?_ ?_)
        | go_in)
      · intro _ hl0
        have HL0 := mkH hl0
        clear hl0 hrg
        go_wp2
        refine bodyPost_end (results_none rfl _ _ _) rfl ?_
        have hown := HRW.out.owns
        rw [swp_end _ _ HL0.out] at hown
        refine ⟨⟨_, rfl⟩, ⟨(HW.out.heap hws h.ne).trans HS0.out, Tm.tight hown, h.ne⟩, (HF0.out.mono (fun k hk => .inl hk)).trans HW.out (fun i hi => .inl (.inr hi))⟩
      · intro x c kl yd yp w2 cnt1 hkey hlx hv hat hrg1 hlt hg1 hs1 hen
        obtain ⟨k, u, rfl, hu⟩ := key_of hat
        have hx := inv_key hkey
        have hxk : x = (k : Int) := by simp only [kL, Lit.int.injEq] at hx; exact hx.2.symm
        subst hxk
        have hkb := hmk _ (atS_swp hu)
        simp only at hkb
        have HW2 : Hid (Fr (fun k => k = Mb) w1 w2) := HW.out.trans (fr_by hg1) (fun i hi => .inr (by cases hi; exact Nat.le_refl _))
        have hb2 : w2.heap[S]? = some _ := (HW2.out.heap hws h.ne).trans HS0.out
        have c4 : w2.cell? ⟨S, 4, none⟩ = some (.int .i64 (n : Int)) := by rw [cell_of_row _ _ _ _ _ _ hb2]; rfl
        have c5 : w2.cell? ⟨S, 5, none⟩ = some (.map (some Mb)) := by rw [cell_of_row _ _ _ _ _ _ hb2]; rfl
        clear hb2 hx hs1 hu hv hlx hat hrg
        by_cases hlo : k < n
        · have hd : decide ((k : Int) < (n : Int)) = true := by simp; omega
          have hkk := hkey
          go_wp2_with (first
            | (at_delete; refine wpList_delete_ranges _ rfl _ _ 46 3 rfl 63 law Tryz.underlying46 vE Mb w1.heap.size m.sl.length _ _ _ rfl hrg1 _ _ rfl hkk ?_; intro w3 cnt3 hrg3 hle hturn; go_frame)
            | go_in)
          rw [strike_twice] at hrg3
          rw [Dm_del, swp_gone (by omega)] at hrg3
          go_roundw
          case rel => exact ⟨_, cnt3, hrg3, HW2.out.trans (fr_turned hturn) (fun i hi => .inl hi)⟩
          case measure => rw [hrg3.left_eq, HRW.out.left_eq]; omega
        · have hd : decide ((k : Int) < (n : Int)) = false := by simp; omega
          go_wp2
          go_roundw
          case rel => exact ⟨_, cnt1, by rw [swp_stay (b := n) (l := m.sl) (left := left) (k := k) (by omega)]; exact hrg1, HW2⟩
          case measure => rw [hrg1.left_eq, HRW.out.left_eq]; exact hlt
  · have hltd := hlt
    have HS := mkH (h.set4 m.ba)
    have HF0 := mkH (fr_cell h 4 (.int .i64 (m.ba : Int)))
    have hme : max m.ba n = m.ba := by omega
    rw [hme]
    have c4' := HS.out.c4
    have c5' := HS.out.c5
    have hown := HS.out.mp
    have hmk := HMK.out
    clear hme
    simp only at c4' hown
    go_enter Tryz.func62, Tryz.ntmps62
    go_wp2_with (first
      | (at_range; refine wpList_range_own _ rfl _ 46 rfl 3 63 law Tryz.underlying46 vE Mb m.sl.length _ rfl hown ?_; intro w0 hrg0 hg0 hs0)
      | go_in)
    go_frame
    generalize w.setCell ⟨S, 4, none⟩ (.int .i64 (m.ba : Int)) = w1 at *
    have HS0 := mkH (HS.out.heap)
    have hws : S < w1.heap.size := HS.out.slt
    have hwm : Mb < w1.heap.size := HS.out.mlt
    have HG := mkH (fr_by hg0)
    have H5 := mkH hs0
    clear hown hg0 hs0 c4' c5'
    go_loopw [4] (fun _ wr => ∃ (left : Lit → Bool) (cnt : Nat), wr.ranges Tryz.prog 3 vE Mb w1.heap.size m.sl.length (Dm (swp m.ba m.sl left)) left cnt ∧ Hid (Fr (fun k => k = Mb) w1 wr))
      (fun _ wr => wr.rangeLeft Mb w1.heap.size)
    case atStart => exact ⟨_, _, by rw [swp_start]; exact hrg0, HG.out.mono (fun k hk => by cases hk)⟩
    case round =>
      clear hrg0
      obtain ⟨left, cnt, hrg, HW⟩ := hrel
      have HRW := mkH hrg
      go_wp2_with (first
        | (at_next; refine wpList_next_ranges _ rfl _ rfl 3 law vE (Value.int .i64) id invK (fun v _ _ => ⟨v, rfl⟩) Mb w1.heap.size m.sl.length _ _ _ rfl hrg ?_ ?_)
        | go_in)
      · intro _ hl0
        have HL0 := mkH hl0
        clear hl0 hrg
        go_wp2
        refine bodyPost_end (results_none rfl _ _ _) rfl ?_
        have hown := HRW.out.owns
        rw [swp_end _ _ HL0.out] at hown
        refine ⟨⟨_, rfl⟩, ⟨(HW.out.heap hws h.ne).trans HS0.out, Tm.tight hown, h.ne⟩, (HF0.out.mono (fun k hk => .inl hk)).trans HW.out (fun i hi => .inl (.inr hi))⟩
      · intro x c kl yd yp w2 cnt1 hkey hlx hv hat hrg1 hlt hg1 hs1 hen
        obtain ⟨k, u, rfl, hu⟩ := key_of hat
        have hx := inv_key hkey
        have hxk : x = (k : Int) := by simp only [kL, Lit.int.injEq] at hx; exact hx.2.symm
        subst hxk
        have hkb := hmk _ (atS_swp hu)
        simp only at hkb
        have HW2 : Hid (Fr (fun k => k = Mb) w1 w2) := HW.out.trans (fr_by hg1) (fun i hi => .inr (by cases hi; exact Nat.le_refl _))
        have hb2 : w2.heap[S]? = some _ := (HW2.out.heap hws h.ne).trans HS0.out
        have c4 : w2.cell? ⟨S, 4, none⟩ = some (.int .i64 (m.ba : Int)) := by rw [cell_of_row _ _ _ _ _ _ hb2]; rfl
        have c5 : w2.cell? ⟨S, 5, none⟩ = some (.map (some Mb)) := by rw [cell_of_row _ _ _ _ _ _ hb2]; rfl
        clear hb2 hx hs1 hu hv hlx hat hrg
        by_cases hlo : k < m.ba
        · have hd : decide ((k : Int) < (m.ba : Int)) = true := by simp; omega
          have hkk := hkey
          go_wp2_with (first
            | (at_delete; refine wpList_delete_ranges _ rfl _ _ 46 3 rfl 63 law Tryz.underlying46 vE Mb w1.heap.size m.sl.length _ _ _ rfl hrg1 _ _ rfl hkk ?_; intro w3 cnt3 hrg3 hle hturn; go_frame)
            | go_in)
          rw [strike_twice] at hrg3
          rw [Dm_del, swp_gone (by omega)] at hrg3
          go_roundw
          case rel => exact ⟨_, cnt3, hrg3, HW2.out.trans (fr_turned hturn) (fun i hi => .inl hi)⟩
          case measure => rw [hrg3.left_eq, HRW.out.left_eq]; omega
        · have hd : decide ((k : Int) < (m.ba : Int)) = false := by simp; omega
          go_wp2
          go_roundw
          case rel => exact ⟨_, cnt1, by rw [swp_stay (b := m.ba) (l := m.sl) (left := left) (k := k) (by omega)]; exact hrg1, HW2⟩
          case measure => rw [hrg1.left_eq, HRW.out.left_eq]; exact hlt

theorem hasRoom_any {w : World} {S B D Mb per : Nat} {m : M} (h : Sm w S B D Mb per m) (k : Nat) (hk : k ≤ 4611686018427387904) (hl : m.sl.length < 1024) :
    Calls Tryz.prog 25 #[.pointer (some ⟨S, 0, none⟩), .int .i64 (k : Int)] w fun e w' => e = .returned (.bool true) ∧ Below w.heap.size w w' := by
  have c5 := h.c5
  have hown := h.mp
  have hkk := hkey (k := k) (by omega)
  have hsz := Dm_size m.sl
  have HH := mkH h
  have hb1 : Below w.heap.size w (w.alloc (.cells #[.int .i64 0, .string ⟨#[]⟩] 63)) := (Below.refl _ w).alloc (Nat.le_refl _) _
  have hsl : S < w.heap.size := h.slt
  have hd : decide ((m.sl.length : Int) < 1024) = true := by simp; omega
  clear h
  cases hat : atS m.sl k with
  | none =>
    have hhas : Maps.has (Dm m.sl) (kL k) = false := by rw [Dm_has, hat]; rfl
    have hatk : ∀ z, (Dm m.sl).atKey (kL k) z = z := fun z => by rw [Dm_at, hat]
    have hlen := fun ty => (hown.alloc (.cells #[.int .i64 0, .string ⟨#[]⟩] 63)).len Tryz.underlying46 ty
    rw [Dm_size] at hlen
    go_enter Tryz.func25, Tryz.ntmps25
    go_wp2_with (first
      | (at_lookup; refine wpList_lookup_own_ok _ rfl _ _ 46 rfl 3 63 law Tryz.underlying46 vE (zeroV _) (vD ⟨0, []⟩) [] (vE_mk _) Mb m.sl.length _ rfl hown _ _ rfl hkk ?_; intro v ps hv; rw [hatk] at hv; have hvv := vE_is hv; subst hvv; rw [hhas]; clear hv; unfold vV)
      | go_in)
    go_ret
    exact ⟨rfl, hb1⟩
  | some u =>
    have hhas : Maps.has (Dm m.sl) (kL k) = true := by rw [Dm_has, hat]; rfl
    have hatk : ∀ z, (Dm m.sl).atKey (kL k) z = vD u := fun z => by rw [Dm_at, hat]
    have hb2 : Below w.heap.size w (w.alloc (.cells #[.int .i64 (u.bal : Int), .string ⟨u.val.toArray⟩] 63)) := (Below.refl _ w).alloc (Nat.le_refl _) _
    go_enter Tryz.func25, Tryz.ntmps25
    go_wp2_with (first
      | (at_lookup; refine wpList_lookup_own_ok _ rfl _ _ 46 rfl 3 63 law Tryz.underlying46 vE (zeroV _) (vD ⟨0, []⟩) [] (vE_mk _) Mb m.sl.length _ rfl hown _ _ rfl hkk ?_; intro v ps hv; rw [hatk] at hv; have hvv := vE_is hv; subst hvv; rw [hhas]; clear hv; unfold vV)
      | go_in)
    go_ret
    exact ⟨rfl, hb2⟩

set_option maxHeartbeats 1000000 in
theorem slots_any {w : World} {S B D Mb per : Nat} {m : M} (h : Sm w S B D Mb per m) (hmk : ∀ p ∈ m.sl, p.1 ≤ 4611686018427387904) :
    Calls Tryz.prog 18 #[.pointer (some ⟨S, 0, none⟩)] w fun e w' => e = .returned (.int .i64 (tops m.sl : Nat)) ∧ Below w.heap.size w w' := by
  have c5 := h.c5
  have hown := h.mp
  have hmade := isMade_any w S B h.c1
  have HMK := mkH hmk
  clear h hmk
  go_enter Tryz.func18, Tryz.ntmps18
  go_wp2_with fail
  refine hmade.mono ?_
  rintro e w1 ⟨rfl, hw⟩
  have hw2 := hw.symm
  subst hw2
  clear hw hmade
  go_wp2_with (first
    | (at_range; refine wpList_range_own _ rfl _ 46 rfl 3 63 law Tryz.underlying46 vE Mb m.sl.length _ rfl hown ?_; intro w0 hrg0 hg0 hs0)
    | go_in)
  go_frame
  have HG := mkH (fr_by hg0)
  clear hown hg0 hs0 c5
  go_loopw [3] (fun ev wr => ∃ (E : Nat) (left : Lit → Bool) (cnt : Nat), ev = .int .i64 (E : Int) ∧ E ≤ 4611686018427387905 ∧ Hid (E ≤ tops m.sl ∧ ∀ p ∈ m.sl, left (kL p.1) = false → p.1 + 1 ≤ E) ∧ wr.ranges Tryz.prog 3 vE Mb w.heap.size m.sl.length (Dm m.sl) left cnt ∧ Hid (Fr (fun _ => False) w wr))
    (fun _ wr => wr.rangeLeft Mb w.heap.size)
  case atStart => exact ⟨0, _, _, rfl, by omega, ⟨Nat.zero_le _, fun p hp hl => by
    have : Maps.has (Dm m.sl) (kL p.1) = true := by
      unfold Dm; rw [Maps.has_eq, List.any_eq_true]
      exact ⟨eD p, List.mem_map.2 ⟨p, hp, rfl⟩, by simp only [eD, kL_same]; simp⟩
    rw [this] at hl; cases hl⟩, hrg0, HG.out.mono (fun k hk => by cases hk)⟩
  case round =>
    clear hrg0
    obtain ⟨E, left, cnt, rfl, hE, HE, hrg, HW⟩ := hrel
    have HRW := mkH hrg
    go_wp2_with (first
      | (at_next; refine wpList_next_ranges _ rfl _ rfl 3 law vE (Value.int .i64) id invK (fun v _ _ => ⟨v, rfl⟩) Mb w.heap.size m.sl.length _ _ _ rfl hrg ?_ ?_)
      | go_in)
    · intro _ hl0
      have HL0 := mkH hl0
      clear hl0 hrg
      go_wp2
      go_ret
      have : E = tops m.sl := by
        have h1 := HE.out.1
        have h2 := tops_le (l := m.sl) (n := E) (fun p hp => HE.out.2 p hp (HL0.out _))
        omega
      exact ⟨by rw [this]; rfl, HW.out.below (fun _ x => x.elim) (Nat.le_refl _)⟩
    · intro x c kl yd yp w2 cnt1 hkey hlx hv hat hrg1 hlt hg1 hs1 hen
      obtain ⟨k, u, rfl, hu⟩ := key_of hat
      have hx := inv_key hkey
      have hxk : x = (k : Int) := by simp only [kL, Lit.int.injEq] at hx; exact hx.2.symm
      subst hxk
      have hmem := atS_mem hu
      have hkb := HMK.out _ hmem
      have hkt := lt_tops hmem
      simp only at hkb hkt
      have HW2 : Hid (Fr (fun _ => False) w w2) := HW.out.trans (fr_by hg1) (fun i hi => .inr (by cases hi; exact Nat.le_refl _))
      have HN : ∀ E', k + 1 ≤ E' → E ≤ E' → ∀ p ∈ m.sl, (left (kL p.1) && !(kL p.1).sameKey (kL k)) = false → p.1 + 1 ≤ E' := fun E' h1 h2 p hp hl => by
        rw [kL_same] at hl
        by_cases e : p.1 = k
        · omega
        · have := HE.out.2 p hp (by simpa [e] using hl)
          omega
      have HNN := mkH HN
      have HKT := mkH hkt
      clear hx hs1 hu hv hlx hat hrg hmem HN hkt
      by_cases hlo : E < k + 1
      · have hd : ((E : Int) < (k : Int) + 1) := by omega
        go_wp2
        go_roundw
        case rel => exact ⟨k + 1, _, cnt1, by go_num, by omega, ⟨HKT.out, HNN.out _ (Nat.le_refl _) (by omega)⟩, hrg1, HW2⟩
        case measure => rw [hrg1.left_eq, HRW.out.left_eq]; exact hlt
      · have hd : ¬ ((E : Int) < (k : Int) + 1) := by omega
        go_wp2
        go_roundw
        case rel => exact ⟨E, _, cnt1, rfl, hE, ⟨HE.out.1, HNN.out _ (by omega) (Nat.le_refl _)⟩, hrg1, HW2⟩
        case measure => rw [hrg1.left_eq, HRW.out.left_eq]; exact hlt

theorem below_bytes (W : World) (e : TypeId) (s : ByteArray) : Below W.heap.size W (Lib.bytesWorld W e s) := ⟨rfl, rfl, rfl, by rw [Lib.bytesWorld_size]; omega, fun k hk => Lib.bytesWorld_at_old W e s k hk⟩
theorem row_bytes (W : World) (e : TypeId) (bs : List UInt8) : Row (Lib.bytesWorld W e ⟨bs.toArray⟩) (some ⟨W.heap.size, 0, none⟩) bs := fun _ => ⟨W.heap.size, 0, rfl, fun i hi => by
  rw [Nat.zero_add]
  exact Lib.bytesWorld_cell W e ⟨bs.toArray⟩ i hi⟩
/-- What Get hands back. -/
def Gt (w w' : World) (o : Option V) (e : Ending) : Prop :=
  match o with
  | none => e = .returned (.tuple #[.int .i64 0, .slice none 0 0, .bool false])
  | some v => ∃ b cap, e = .returned (.tuple #[.int .i64 (v.bal : Int), .slice (some ⟨b, 0, none⟩) v.val.length cap, .bool true]) ∧ Row w' (some ⟨b, 0, none⟩) v.val ∧ w.heap.size ≤ b ∧ v.val.length ≤ cap ∧ cap ≤ 9223372036854775807

set_option maxHeartbeats 1000000 in
theorem get_any {w : World} {S B D Mb per : Nat} {m : M} (h : Sm w S B D Mb per m) (k : Nat) (hk : k ≤ 4611686018427387904) (hv : ∀ v, atS m.sl k = some v → v.val.length ≤ 1000) :
    Calls Tryz.prog 19 #[.pointer (some ⟨S, 0, none⟩), .int .i64 (k : Int)] w fun e w' => Gt w w' (atS m.sl k) e ∧ Below w.heap.size w w' := by
  have c5 := h.c5
  have hown := h.mp
  have hkk := hkey (k := k) (by omega)
  have hmade := isMade_any w S B h.c1
  have hsl : S < w.heap.size := h.slt
  have HH := mkH h
  clear h
  cases hat : atS m.sl k with
  | none =>
    have hhas : Maps.has (Dm m.sl) (kL k) = false := by rw [Dm_has, hat]; rfl
    have hatk : ∀ z, (Dm m.sl).atKey (kL k) z = z := fun z => by rw [Dm_at, hat]
    have hb1 : Below w.heap.size w (w.alloc (.cells #[.int .i64 0, .string ⟨#[]⟩] 63)) := (Below.refl _ w).alloc (Nat.le_refl _) _
    go_enter Tryz.func19, Tryz.ntmps19
    go_wp2_with fail
    refine hmade.mono ?_
    rintro e w1 ⟨rfl, hw⟩
    have hw2 := hw.symm
    subst hw2
    clear hw hmade
    go_wp2_with (first
      | (at_lookup; refine wpList_lookup_own_ok _ rfl _ _ 46 rfl 3 63 law Tryz.underlying46 vE (zeroV _) (vD ⟨0, []⟩) [] (vE_mk _) Mb m.sl.length _ rfl hown _ _ rfl hkk ?_; intro v ps hv; rw [hatk] at hv; have hvv := vE_is hv; subst hvv; rw [hhas]; clear hv; unfold vV)
      | go_in)
    go_ret3
    exact ⟨rfl, hb1⟩
  | some u =>
    have hhas : Maps.has (Dm m.sl) (kL k) = true := by rw [Dm_has, hat]; rfl
    have hatk : ∀ z, (Dm m.sl).atKey (kL k) z = vD u := fun z => by rw [Dm_at, hat]
    have hul := hv u hat
    obtain ⟨bl, vl⟩ := u
    simp only at hul
    have hb2 : Below w.heap.size w (w.alloc (.cells #[.int .i64 (bl : Int), .string ⟨vl.toArray⟩] 63)) := (Below.refl _ w).alloc (Nat.le_refl _) _
    have kc := fun (W : World) (s : ByteArray) => Lib.run_convert_string_bytes (P := Tryz.prog) W 9 30 5 s Tryz.underlying9 Tryz.underlying30 Tryz.underlying5
    have hmx : Tryz.prog.follows .mixedOrders = true := by kernel_rfl
    go_enter Tryz.func19, Tryz.ntmps19
    go_wp2_with fail
    refine hmade.mono ?_
    rintro e w1 ⟨rfl, hw⟩
    have hw2 := hw.symm
    subst hw2
    clear hw hmade
    go_wp2_with (first
      | (at_lookup; refine wpList_lookup_own_ok _ rfl _ _ 46 rfl 3 63 law Tryz.underlying46 vE (zeroV _) (vD ⟨0, []⟩) [] (vE_mk _) Mb m.sl.length _ rfl hown _ _ rfl hkk ?_; intro v ps hv; rw [hatk] at hv; have hvv := vE_is hv; subst hvv; rw [hhas]; clear hv; unfold vV)
      | go_in)
    have d0 : (w.alloc (.cells #[.int .i64 (bl : Int), .string ⟨vl.toArray⟩] 63)).cell? ⟨w.heap.size, 0, none⟩ = some (.int .i64 (bl : Int)) := Cw.cell_new_at w _ _ 0 _ rfl
    have d1 : (w.alloc (.cells #[.int .i64 (bl : Int), .string ⟨vl.toArray⟩] 63)).cell? ⟨w.heap.size, 1, none⟩ = some (.string ⟨vl.toArray⟩) := Cw.cell_new_at w _ _ 1 _ rfl
    have hsz1 : (w.alloc (.cells #[.int .i64 (bl : Int), .string ⟨vl.toArray⟩] 63)).heap.size = w.heap.size + 1 := by simp
    generalize hW1 : w.alloc (.cells #[.int .i64 (bl : Int), .string ⟨vl.toArray⟩] 63) = W1 at *
    have d2 : (Lib.bytesWorld W1.drew 5 ⟨vl.toArray⟩).cell? ⟨w.heap.size, 0, none⟩ = some (.int .i64 (bl : Int)) := (Lib.bytesWorld_old _ _ _ _ (by show w.heap.size < W1.heap.size; omega)).trans d0
    have hbb := below_bytes W1.drew 5 ⟨vl.toArray⟩
    have hrr := row_bytes W1.drew 5 vl
    have HBB := mkH hbb
    have hsd : W1.drew.heap.size = w.heap.size + 1 := hsz1
    rw [hsd] at hrr
    clear hsd
    have HRR := mkH hrr
    have HB2 := mkH hb2
    clear hbb hrr hb2
    go_region
    all_goals go_wp2
    all_goals go_ret3
    all_goals exact ⟨⟨_, _, rfl, HRR.out, by omega, grownCap_ge _ _ _ _, by have := grownCap_le_maxLen W1.drew vl.length 0 5 (by unfold maxLen; omega); unfold maxLen at this; exact Nat.le_trans this (by omega)⟩, HB2.out.trans ⟨HBB.out.os, HBB.out.tape, HBB.out.output, HBB.out.size, fun k hk => HBB.out.block k (Nat.lt_of_lt_of_le hk HB2.out.size)⟩⟩
end Go.Proofs.YthmedpabgblddabGreatDoor.Tc

namespace Go.Proofs.YthmedpabgblddabGreatDoor.Td
open Go.RowKit Kt Dk Tp Tm Pl Cs Cf Cv Se Rd Wr Ta Tb0 Tc Go.Maps
set_option linter.unusedVariables false
set_option maxRecDepth 20000

theorem row_ne {w : World} {S B D Mb per : Nat} {m : M} (h : Sm w S B D Mb per m) {ao : Option Addr} {bs : List UInt8} (hr : Row w ao bs) : ∀ b off, ao = some ⟨b, off, none⟩ → 0 < bs.length → b ≠ S ∧ b ≠ Mb := fun b off e h0 => by
  obtain ⟨b', off', e', hc⟩ := hr h0
  rw [e] at e'
  simp only [Option.some.injEq, Addr.mk.injEq, and_true] at e'
  obtain ⟨rfl, rfl⟩ := e'
  have h1 := hc 0 h0
  refine ⟨fun hb => ?_, fun hb => ?_⟩
  · subst hb
    rw [cell_of_row _ _ _ _ _ _ h.heap] at h1
    rcases off with _ | _ | _ | _ | _ | _ | off <;> simp at h1
  · subst hb
    obtain ⟨es, clock, hb, -⟩ := h.mp
    simp [World.cell?, hb] at h1

/-- The reader that apply lays. -/
theorem rdr_new {w : World} {S Mb : Nat} {ao : Option Addr} {bs : List UInt8} {cap : Nat} (hr : Row w ao bs) (hc : bs.length ≤ cap) (hcap : cap ≤ 9223372036854775807) (hn : ∀ b off, ao = some ⟨b, off, none⟩ → 0 < bs.length → b ≠ S ∧ b ≠ Mb) :
    Rdr (w.alloc (.cells #[.slice ao bs.length cap] 83)) w.heap.size (fun k => k = w.heap.size ∨ k = S ∨ k = Mb) bs := by
  refine ⟨ao, cap, heap_alloc_new _ _, hr.below ((Below.refl _ w).alloc (Nat.le_refl _) _), hc, hcap, fun b off e h0 x => ?_⟩
  rcases x with x | x | x
  · obtain ⟨b', off', e', hcc⟩ := hr h0
    rw [e] at e'
    simp only [Option.some.injEq, Addr.mk.injEq, and_true] at e'
    have := World.block_lt_of_cell? w _ (hcc 0 h0)
    simp only at this
    omega
  · exact (hn b off e h0).1 x
  · exact (hn b off e h0).2 x

set_option maxHeartbeats 2000000 in
theorem apply_any {w : World} {S B D Mb per : Nat} {m : M} (h : Sm w S B D Mb per m) (ho : OkM m) (r : Rc) (hr0 : okR m r) (ao : Option Addr) (cap : Nat) (hr : Row w ao (eR r)) (hc : (eR r).length ≤ cap) (hcap : cap ≤ 9223372036854775807) :
    Calls Tryz.prog 33 #[.pointer (some ⟨S, 0, none⟩), .slice ao (eR r).length cap] w fun e w' => (∃ v, e = .returned v) ∧ Sm w' S B D Mb per (ap m r) ∧ Fr (fun k => k = S ∨ k = Mb) w w' := by
  have hlen := eR_len hr0
  have hrd := rdr_new hr hc hcap (row_ne h hr)
  have hb0 : Below w.heap.size w (w.alloc (.cells #[.slice ao (eR r).length cap] 83)) := (Below.refl _ w).alloc (Nat.le_refl _) _
  have h1 := h.below hb0
  have HS0 := mkH (And.intro h.slt h.mlt)
  have hf0 : Fr (fun k => k = S ∨ k = Mb) w (w.alloc (.cells #[.slice ao (eR r).length cap] 83)) := Fr.ofBelow hb0
  have HF0 := mkH hf0
  have hRS : w.heap.size ≠ S := by have := h.slt; omega
  have hRM : w.heap.size ≠ Mb := by have := h.mlt; omega
  have hne := h.ne
  have hpr := ho.pr
  have hba := ho.ba
  have HOK := mkH ho
  clear h hr hb0 hf0
  generalize hR : w.heap.size = R at *
  have hmx : Tryz.prog.follows .mixedOrders = true := by kernel_rfl
  cases r with
  | pm b =>
    simp only [okR] at hr0
    simp only [eR] at *
    obtain ⟨L, hL⟩ : ∃ L, (enc 1 ++ enc b).length = L := ⟨_, rfl⟩
    have HL := mkH hL
    have HRD := mkH hrd
    have H1 := mkH h1
    clear hrd h1
    rw [hL] at HRD H1 HF0 hc hlen ⊢
    generalize hW : w.alloc (.cells #[.slice ao L cap] 83) = W0 at *
    go_enter Tryz.func33, Tryz.ntmps33
    go_wp2_with fail
    refine (num_any W0 R _ 1 (enc b) HRD.out (.inl rfl) (by omega) (by rw [HL.out]; omega)).mono ?_
    rintro e w1 ⟨rfl, hr1, hf1⟩
    have HR1 := mkH hr1
    have HF1 := mkH hf1
    clear hr1 hf1
    go_wp2_with fail
    have hr1 := HR1.out
    rw [← List.append_nil (enc b)] at hr1
    refine (num_any w1 R _ b [] hr1 (.inl rfl) (by omega) (by have := enc_len9 (n := b) (by omega); simp; omega)).mono ?_
    rintro e w2 ⟨rfl, hr2, hf2⟩
    have HF2 := mkH hf2
    clear hr2 hf2 hr1
    go_wp2_with fail
    have hs2 := (H1.out.fr HF1.out (fun e => hRS e.symm) (fun e => hRM e.symm)).fr HF2.out (fun e => hRS e.symm) (fun e => hRM e.symm)
    refine (raise_any hs2 b (by omega) (by omega)).mono ?_
    rintro e w3 ⟨⟨v, rfl⟩, h3, hf3⟩
    have H3 := mkH h3
    have HF3 := mkH hf3
    clear h3 hf3 hs2
    go_wp2
    refine bodyPost_end (results_none rfl _ _ _) rfl ?_
    exact ⟨⟨_, rfl⟩, H3.out, ((HF0.out.trans HF1.out (fun i hi => .inr (by omega))).trans HF2.out (fun i hi => .inr (by omega))).trans HF3.out (fun i hi => .inl (.inl hi))⟩
  | bs n =>
    simp only [okR] at hr0
    simp only [eR] at *
    obtain ⟨L, hL⟩ : ∃ L, (enc 3 ++ enc n).length = L := ⟨_, rfl⟩
    have HL := mkH hL
    have HRD := mkH hrd
    have H1 := mkH h1
    clear hrd h1
    rw [hL] at HRD H1 HF0 hc hlen ⊢
    generalize hW : w.alloc (.cells #[.slice ao L cap] 83) = W0 at *
    go_enter Tryz.func33, Tryz.ntmps33
    go_wp2_with fail
    refine (num_any W0 R _ 3 (enc n) HRD.out (.inl rfl) (by omega) (by rw [HL.out]; omega)).mono ?_
    rintro e w1 ⟨rfl, hr1, hf1⟩
    have HR1 := mkH hr1
    have HF1 := mkH hf1
    clear hr1 hf1
    go_wp2_with fail
    have hr1 := HR1.out
    rw [← List.append_nil (enc n)] at hr1
    refine (num_any w1 R _ n [] hr1 (.inl rfl) (by omega) (by have := enc_len9 (n := n) (by omega); simp; omega)).mono ?_
    rintro e w2 ⟨rfl, hr2, hf2⟩
    have HF2 := mkH hf2
    clear hr2 hf2 hr1
    go_wp2_with fail
    have hs2 := (H1.out.fr HF1.out (fun e => hRS e.symm) (fun e => hRM e.symm)).fr HF2.out (fun e => hRS e.symm) (fun e => hRM e.symm)
    refine (forget_any hs2 n (by omega) (by omega) (fun p hp => by have := HOK.out.at' p hp; omega)).mono ?_
    rintro e w3 ⟨⟨v, rfl⟩, h3, hf3⟩
    have H3 := mkH h3
    have HF3 := mkH hf3
    clear h3 hf3 hs2
    go_wp2
    refine bodyPost_end (results_none rfl _ _ _) rfl ?_
    exact ⟨⟨_, rfl⟩, H3.out, ((HF0.out.trans HF1.out (fun i hi => .inr (by omega))).trans HF2.out (fun i hi => .inr (by omega))).trans HF3.out (fun i hi => .inl hi)⟩
  | ac s b u =>
    simp only [okR] at hr0
    simp only [eR] at *
    obtain ⟨L, hL⟩ : ∃ L, (enc 2 ++ (enc s ++ (enc b ++ u))).length = L := ⟨_, rfl⟩
    have HL := mkH hL
    have HRD := mkH hrd
    have H1 := mkH h1
    clear hrd h1
    rw [hL] at HRD H1 HF0 hc hlen ⊢
    generalize hW : w.alloc (.cells #[.slice ao L cap] 83) = W0 at *
    have hl2 : (enc s ++ (enc b ++ u)).length ≤ 1000000 := by have := HL.out; rw [List.length_append] at this; omega
    have hl3 : (enc b ++ u).length ≤ 1000000 := by rw [List.length_append] at hl2; omega
    have HL2 := mkH (And.intro hl2 hl3)
    clear hl2 hl3
    go_enter Tryz.func33, Tryz.ntmps33
    go_wp2_with fail
    refine (num_any W0 R _ 2 _ HRD.out (.inl rfl) (by omega) (by rw [HL.out]; omega)).mono ?_
    rintro e w1 ⟨rfl, hr1, hf1⟩
    have HR1 := mkH hr1
    have HF1 := mkH hf1
    clear hr1 hf1
    go_wp2_with fail
    refine (num_any w1 R _ s _ HR1.out (.inl rfl) (by omega) HL2.out.1).mono ?_
    rintro e w2 ⟨rfl, hr2, hf2⟩
    have HR2 := mkH hr2
    have HF2 := mkH hf2
    clear hr2 hf2
    go_wp2_with fail
    refine (num_any w2 R _ b _ HR2.out (.inl rfl) (by omega) HL2.out.2).mono ?_
    rintro e w3 ⟨rfl, hr3, hf3⟩
    have HR3 := mkH hr3
    have HF3 := mkH hf3
    clear hr3 hf3
    go_wp2_with fail
    have hs3 := ((H1.out.fr HF1.out (fun e => hRS e.symm) (fun e => hRM e.symm)).fr HF2.out (fun e => hRS e.symm) (fun e => hRM e.symm)).fr HF3.out (fun e => hRS e.symm) (fun e => hRM e.symm)
    refine (raise_any hs3 b (by omega) (by omega)).mono ?_
    rintro e w4 ⟨⟨v, rfl⟩, h4, hf4⟩
    have hr4 := HR3.out.fr hf4 (fun e => hRS e) (fun k hk => .inr (.inl hk))
    have HF4 : Hid (Fr (fun k => k = S ∨ k = Mb) w w4) := (((HF0.out.trans HF1.out (fun i hi => .inr (by omega))).trans HF2.out (fun i hi => .inr (by omega))).trans HF3.out (fun i hi => .inr (by omega))).trans hf4 (fun i hi => .inl (.inl hi))
    have c5 := h4.c5
    have H4 := mkH h4
    obtain ⟨ar, cr, hrh, hrr, hrc, hrcap, hrq⟩ := id hr4
    have cR : w4.cell? ⟨R, 0, none⟩ = some (.slice ar u.length cr) := by rw [cell_of_row _ _ _ _ _ _ hrh]; rfl
    have HRR : Hid (Rdr w4 R (fun k => k = R ∨ k = S ∨ k = Mb) (u ++ [])) := by rw [List.append_nil]; exact hr4
    have hul : u.length ≤ 300 := hr0.2.2.2
    clear h4 hf4 hs3 hr4 hrh hrr hrc hrcap hrq HR1 HR2 HR3 HF1 HF2 HF3 HRD H1 HL2 HF0
    have hkk := hkey (k := s) (by omega)
    have HT : Hid (∀ q, Calls Tryz.prog 56 #[.pointer (some ⟨R, 0, none⟩), .int .i64 (u.length : Int)] (w4.drewN q) fun e w' => e = .returned (.string (Kt.S u)) ∧ ∃ w5, Fr (fun k => k = S ∨ k = Mb) w w5 ∧ w'.cell? ⟨S, 5, none⟩ = some (.map (some Mb)) ∧ (Instr.mapUpdate 46 (.map (some Mb)) (.int .i64 (s : Int)) (.agg #[.int .i64 (b : Int), .string (Kt.S u)])).run Tryz.prog w' = .ok () w5 ∧ Sm w5 S B D Mb per (ap m (.ac s b u))) := fun q => by
      have hd : Below w4.heap.size w4 (w4.drewN q) := below_drewN (Below.refl _ _) q
      refine (text_any (w4.drewN q) R (fun k => k = R ∨ k = S ∨ k = Mb) u [] (HRR.out.fr (Fr.ofBelow (F := fun _ => False) hd) (fun x => x) (fun _ x => x.elim)) (.inl rfl) (by simp; omega)).mono ?_
      rintro e w' ⟨rfl, -, hft⟩
      have hs' := (H4.out.below hd).fr hft (fun e => hRS e.symm) (fun e => hRM e.symm)
      obtain ⟨w5, hrun, hown5, hturn⟩ := hs'.mp.store law Tryz.underlying46 (by have := HOK.out.len; unfold maxLen; simp only at *; omega) hkk (vE_mk ⟨b, u⟩)
      have hf5 := fr_turned hturn
      refine ⟨rfl, w5, ((HF4.out.trans (Fr.ofBelow (F := fun _ => False) hd) (fun _ x => x.elim)).trans hft (fun i hi => .inr (by omega))).trans hf5 (fun i hi => .inl (.inr hi)), hs'.c5, hrun, ⟨(hf5.heap hs'.slt hne).trans hs'.heap, ?_, hne⟩⟩
      rw [Dm_put HOK.out.srt] at hown5
      exact Tm.tight hown5
    go_wp2_with fail
    go_region_with (first
      | (go_at_call 56; refine (HT.out 1).mono ?_; rintro e w' ⟨rfl, w5, hF5, c6, hupd, hS5⟩))
    all_goals go_wp2
    all_goals refine bodyPost_end (results_none rfl _ _ _) rfl ?_
    all_goals exact ⟨⟨_, rfl⟩, hS5, hF5⟩
end Go.Proofs.YthmedpabgblddabGreatDoor.Td
