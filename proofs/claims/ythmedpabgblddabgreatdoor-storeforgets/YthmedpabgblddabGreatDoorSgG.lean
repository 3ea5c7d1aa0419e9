/-
  The two iterators of crc: frames' and All's, over frames one behind the other.
-/
import Derived.Test.YthmedpabgblddabGreatDoorSgF
namespace Go.Proofs.YthmedpabgblddabGreatDoor.Si
open Go.RowKit Go.Shelf Kt Cs Cw Cf Cn Cg Ck Ca Sp Dk Sh
set_option linter.unusedVariables false
attribute [local go_sem] Oper.semAt_some

/-- The places and the bodies. -/
def prs (l : List (List UInt8)) : List (Nat × List UInt8) := (List.range l.length).map (fun k => (off l k, l.getD k []))
theorem prs_len (l : List (List UInt8)) : (prs l).length = l.length := by simp [prs]
theorem prs_at {l : List (List UInt8)} {k : Nat} (h : k < l.length) : (prs l)[k]? = some (off l k, l.getD k []) := by
  simp [prs, h]
theorem prs_of {l : List (List UInt8)} {k pl : Nat} {b : List UInt8} (h : (prs l)[k]? = some (pl, b)) : k < l.length ∧ pl = off l k ∧ b = l.getD k [] := by
  have hk : k < l.length := by have := (List.getElem?_eq_some_iff.1 h).1; rwa [prs_len] at this
  rw [prs_at hk] at h
  simp only [Option.some.injEq, Prod.mk.injEq] at h
  exact ⟨hk, h.1.symm, h.2.symm⟩
theorem off_le {l : List (List UInt8)} (t : List UInt8) (k : Nat) : off l k ≤ (fcat l ++ t).length := by
  rw [fcat_split l k, List.length_append, List.length_append]; unfold off; omega

set_option maxRecDepth 100000 in
set_option maxHeartbeats 2000000 in
theorem frames1_seq (n : Nat) (hn : 1 ≤ n) (Q : Nat → Prop) (Bx : Nat) (T : TypeId) (w : World) (ao : Option Addr) (cap : Nat) (l : List (List UInt8)) (t bs : List UInt8) (hbs : bs = fcat l ++ t) (hll : ∀ x ∈ l, x.length ≤ 65536) (ht : (Cp.fd t).1 ≠ 0)
    (hT : Tb w) (hr : Row w ao bs) (hl : bs.length ≤ 1000000) (hc : bs.length ≤ cap) (hcap : cap ≤ 9223372036854775807) (hBx : w.heap[Bx]? = some (.cells #[.slice ao bs.length cap] T)) (q0 : ¬ Q 0) (qB : ¬ Q Bx) (qa : 0 < bs.length → ∀ b off, ao = some ⟨b, off, none⟩ → ¬ Q b) :
    SeqA Tryz.prog n 85 #[.pointer (some ⟨Bx, 0, none⟩)] (fun _ _ => True) Q 0 (prs l) w := fun lp J W hW hlp hlW hJ hY h0 => by
  have hBW : W.heap[Bx]? = some (.cells #[.slice ao bs.length cap] T) := (hW.block Bx (block_lt hBx)).trans hBx
  have hTW : Tb W := hT.below hW hT.size
  have hrW : Row W ao bs := hr.below hW
  have q0' : ¬ (Q 0 ∨ 0 = lp) := fun x => by rcases x with x | x; exact q0 x; have := hT.size; omega
  have qB' : ¬ (Q Bx ∨ Bx = lp) := fun x => by rcases x with x | x; exact qB x; have := block_lt hBx; omega
  have qa' : 0 < bs.length → ∀ b off, ao = some ⟨b, off, none⟩ → ¬ (Q b ∨ b = lp) := fun hp b off e x => by
    rcases x with x | x
    · exact qa hp b off e x
    · obtain ⟨b', off', e', hc⟩ := hr hp
      rw [e] at e'
      simp only [Option.some.injEq, Addr.mk.injEq] at e'
      have := World.block_lt_of_cell? w _ (hc 0 hp)
      simp only at this
      omega
  have HBL := mkH (block_lt hBW)
  have HAL := mkH (show 0 < bs.length → ∀ b off, ao = some ⟨b, off, none⟩ → b < W.heap.size from fun hp b off e => by
    obtain ⟨b', off', e', hc⟩ := hrW hp
    rw [e] at e'
    simp only [Option.some.injEq, Addr.mk.injEq] at e'
    have := World.block_lt_of_cell? W _ (hc 0 hp)
    simp only at this
    omega)
  have HBS := mkH hbs
  have HPL := mkH (prs_len l)
  clear hbs hW hBx hT hr
  refine callsIn_of_wp Tryz.func85 rfl trivial ?_ rfl
  simp only [Tryz.ntmps85, List.size_toArray, List.length_cons, List.length_nil, Nat.reduceAdd, Nat.reduceSub, Array.replicate_succ, Array.replicate_zero, List.push_toArray, List.append_toArray, List.nil_append, List.cons_append]
  gi_wp2
  gi_loopw [3] (fun i wr => ∃ (k p : Nat), i = .int .i64 p ∧ Hid (p = off l k ∧ k ≤ l.length) ∧ p ≤ bs.length ∧ J k wr ∧ Tb wr ∧ Row wr ao bs ∧ wr.heap[Bx]? = some (.cells #[.slice ao bs.length cap] T) ∧ W.heap.size ≤ wr.heap.size)
    (fun i _ => bs.length + 1 - (intOf i).toNat)
  case atStart => exact ⟨0, 0, rfl, ⟨(off_zero l).symm, Nat.zero_le _⟩, Nat.zero_le _, h0, hTW, hrW, hBW, Nat.le_refl _⟩
  case round =>
    obtain ⟨k, p, rfl, HK, hpb, hJs, hTr, hrr, hBr, hsz⟩ := hrel
    have hcell := cell_box hBr
    have hBl2 : Bx < wr.heap.size := block_lt hBr
    have HJ := mkH hJs
    have HT := mkH hTr
    have HR := mkH hrr
    clear hJs hTr hrr
    gi_wp2_with fail
    refine ⟨trivial, (callsIn_wide.2 (find_all wr ao cap p bs HT.out HR.out hl hc hcap hpb)).mono ?_⟩
    rintro e w1 ⟨hB1, hres⟩
    have hJ1 : J k w1 := hJ k wr w1 none HJ.out (grown_of_below hB1) (fun r e => by cases e)
    rcases Nat.lt_or_ge k l.length with hk | hk
    · have hfd : Cp.fd (bs.drop p) = (0, (l.getD k []).length) := by rw [HBS.out, HK.out.1]; exact fd_off hll t hk
      have hbo : (bs.drop (p + 12)).take (l.getD k []).length = l.getD k [] := by rw [HBS.out, HK.out.1]; exact body_off t hk
      have hos : off l (k + 1) = p + 12 + (l.getD k []).length := by rw [HK.out.1]; exact off_succ hk
      have hob : off l (k + 1) ≤ bs.length := by rw [HBS.out]; exact off_le t _
      rw [hfd] at hres
      rcases hres with ⟨hne, _⟩ | ⟨_, aq, cq, hq1, hq2, rfl, hq⟩
      · exact (hne rfl).elim
      · simp only at hq hq2 ⊢
        rw [hbo] at hq
        have hr1 := HR.out.below hB1
        obtain ⟨fn, tmps, assign, body, hy, hR⟩ := hY k p (l.getD k []) aq cq w1 w1 hJ1 (Below.refl _ _) (Nat.le_trans hsz hB1.size) trivial (by rw [HK.out.1]; exact prs_at hk) (hq w1 hr1)
        have HN := mkH (And.intro hos (show k + 1 ≤ l.length from hk))
        have hob2 : p + 12 + (l.getD k []).length ≤ bs.length := by omega
        clear hcell hfd hbo hq hos hob
        generalize (l.getD k []).length = bl at *
        gi_wp2
        refine hR.mono ?_
        rintro e W3 ⟨rfl, hJ3, hk3⟩
        have hx3 : W3.heap[Bx]? = some (.cells #[.slice ao bs.length cap] T)   := (hk3.block Bx (by have := HBL.out; omega) (Nat.lt_of_lt_of_le hBl2 hB1.size) qB').trans ((hB1.block Bx hBl2).trans hBr)
        have hT3 := fm_tb hk3 (HT.out.below hB1 HT.out.size) (by have := HBL.out; omega) q0'
        have hr3 : Row W3 ao bs := fm_row hk3 hr1 (fun hp b off e => ⟨HAL.out hp b off e, qa' hp b off e⟩)
        have hs3 := Nat.le_trans hsz (Nat.le_trans hB1.size hk3.size)
        clear hy hR hk3 hr1
        gi_wp2
        go_roundw
        case rel => exact ⟨k + 1, p + 12 + bl, by go_num, ⟨HN.out.1.symm, HN.out.2⟩, hob2, hJ3, hT3, hr3, hx3, hs3⟩
        case measure => simp [intOf]; omega
    · have hkl : k = l.length := by have := HK.out.2; omega
      have hfd : (Cp.fd (bs.drop p)).1 ≠ 0 := by
        rw [HBS.out, HK.out.1, hkl, off_all, List.drop_left]; exact ht
      rcases hres with ⟨h1, rfl⟩ | ⟨h1, _⟩
      · have t1 : (((Cp.fd (bs.drop p)).1 : Int) != 0) = true := by simp; omega
        clear h1 hcell hfd
        generalize (Cp.fd (bs.drop p)).1 = ee at t1
        gi_wp2
        refine ⟨fun _ h => (by cases h), ?_⟩
        gi_wp2
        refine bodyPost_ret (results_none rfl _ _ _) rfl ?_
        refine ⟨⟨_, rfl⟩, ?_⟩
        rw [HPL.out, ← hkl]
        exact hJ1
      · exact (hfd h1).elim
end Go.Proofs.YthmedpabgblddabGreatDoor.Si
