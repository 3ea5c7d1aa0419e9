/-
  ChMe ChRs ChMr ShP, joined by mrg.py.
-/
import Derived.Test.YtcpmcfagibmboaaRqC
import Derived.Test.YtcpmcfagibmboaaRqD
import Derived.Test.YtcpmcfagibmboaaChLd
import Derived.Test.YtcpmcfagibmboaaReads

namespace Go.Proofs.Ytcpmcfagibmboaa.Me
open Go.RowKit Go.Shelf Pl Gf Gk Ct Cu La Mp Cl Ma Cp Mn Cx
open Cr hiding some_of
open Kt
open At (RowT)
open Mq (dmp rowT3 n2_snoc)
set_option linter.unusedVariables false
set_option linter.unusedSimpArgs false
set_option maxRecDepth 20000

/-- Block R is the document's machine with this chart, so many slots, and these known. -/
structure Rm (w : World) (R : Nat) (e : Int) (ps : List Pc) (s : Int) (L : List Dd) : Prop where
  cells : ∃ a c ka kc, Bx w R #[.int .i64 e, .slice a ps.length c, .int .i64 s, .slice ka L.length kc] 51 ∧ RdP w a c ps ∧ RowD w ka L
theorem Rm.below {w w' : World} {R : Nat} {e : Int} {ps : List Pc} {s : Int} {L : List Dd} (h : Rm w R e ps s L) (hb : Below w.heap.size w w') : Rm w' R e ps s L := by
  obtain ⟨a, c, ka, kc, h1, h2, h3⟩ := h
  exact ⟨a, c, ka, kc, h1.bel hb, h2.below hb, h3.below hb⟩
/-- What Dump answers. -/
def RdU (w : World) (e : Int) (ps : List Pc) (s : Int) (L : List Dd) (x : Ending) (w' : World) : Prop := ∃ ao cap, x = .returned (.slice ao 3 cap) ∧ RowT w' ao (dmp e ps s L) ∧ Below w.heap.size w w'

set_option maxHeartbeats 4000000 in
theorem rmdump_any {w : World} {R : Nat} {e : Int} {ps : List Pc} {s : Int} {L : List Dd} (h : Rm w R e ps s L) (hl : ps.length ≤ 30000) (hm : Cp.mayC e ps = true) (hs : okN s)
    (hD : L.length ≤ 10000 ∧ ∀ x ∈ L, okN x.1 ∧ okN x.2) :
    Calls Try.prog 21 #[.pointer (some ⟨R, 0, none⟩)] w (RdU w e ps s L) := by
  obtain ⟨a, c, ka, kc, q1, q2, q3⟩ := h
  have HC : Hid (∀ W, Below w.heap.size w W → W.cell? ⟨R, 0, none⟩ = some (.int .i64 e) ∧ W.cell? ⟨R, 1, none⟩ = some (.slice a ps.length c) ∧ W.cell? ⟨R, 2, none⟩ = some (.int .i64 s) ∧ W.cell? ⟨R, 3, none⟩ = some (.slice ka L.length kc)) := mkH (fun W hb => ⟨(q1.bel hb).cell 0 _ rfl, (q1.bel hb).cell 1 _ rfl, (q1.bel hb).cell 2 _ rfl, (q1.bel hb).cell 3 _ rfl⟩)
  have HP := mkH q2
  have HK := mkH q3
  have HD := mkH hD
  obtain ⟨c0, c1, c2, c3⟩ := HC.out w (Below.refl _ _)
  have HN1 := mkH (rnum_any w none 0 [] s (Row.nil _ _) (by simp [txt]) hs)
  clear q1 q2 q3 hD
  go_enter Try.func21, Try.ntmps21
  go_wp2_with fail
  refine HN1.out.mono ?_
  rintro x w2 ⟨a2, k2, rfl, hr2, hb2⟩
  have HR2 := mkH hr2.out
  have HB2 := mkH hb2
  obtain ⟨c0, c1, c2, c3⟩ := HC.out w2 hb2
  have HDU := mkH (rdump_any w2 e a c ps (HP.out.below hb2) hl)
  rw [dmpV_may hm] at HDU
  clear hr2 hb2 HN1
  rw [List.nil_append] at HR2 ⊢
  go_wp2_with fail
  refine HDU.out.mono ?_
  rintro x w3 ⟨rfl, hb3⟩
  have HR3 : Hid (Row w3 a2 (txt [s])) := mkH (HR2.out.below hb3)
  have HB3 := mkH (HB2.out.trans (hb3.mono HB2.out.size))
  clear hb3 HDU HR2 HB2 c0 c1 c2 c3
  go_wp2_with fail
  go_loopw [7, 8] (fun v i wr => ∃ (k : Nat) (av : Option Addr) (cv : Nat), k ≤ L.length ∧ i = .int .i64 k ∧ v = .slice av (txt ((L.take k).flatMap n2)).length cv ∧ Hid (Row wr av (txt ((L.take k).flatMap n2))) ∧ Hid (Below w3.heap.size w3 wr)) (fun _ i _ => L.length - (intOf i).toNat)
  case atStart => exact ⟨0, none, 0, Nat.zero_le _, rfl, rfl, mkH (Row.nil _ _), mkH (Below.refl _ _)⟩
  case round =>
    obtain ⟨k, av, cv, hk, rfl, rfl, HO, HB⟩ := hrel
    have HBw := mkH (HB3.out.trans (HB.out.mono HB3.out.size))
    obtain ⟨c0, c1, c2, c3⟩ := HC.out wr HBw.out
    have hDl := HD.out.1
    by_cases hlt : k < L.length
    · obtain ⟨x, hx⟩ := Cr.some_of hlt
      have hxm := List.mem_of_getElem? hx
      obtain ⟨b, o, e1, d0, d1⟩ := atD HK.out hx
      subst e1
      have hblt := World.block_lt_of_cell? w _ d0
      have hi : (k : Int) < (L.length : Int) := by omega
      have hi0 : (0 : Int) ≤ (k : Int) := by omega
      have hokx := HD.out.2 x hxm
      have HCK : Hid (∀ W, Below w.heap.size w W → W.cell? ⟨b, o + k * 2, none⟩ = some (.int .i64 x.1) ∧ W.cell? ⟨b, o + k * 2 + 1, none⟩ = some (.int .i64 x.2)) := mkH (fun W hb => ⟨(hb.cell (p := ⟨b, o + k * 2, none⟩) hblt).trans d0, (hb.cell (p := ⟨b, o + k * 2 + 1, none⟩) hblt).trans d1⟩)
      have hpl : (txt ((L.take k).flatMap n2)).length ≤ 1000000 := by
        have h1 := txt_len ((L.take k).flatMap n2) (by
          intro y hy
          obtain ⟨z, hz, hy⟩ := List.mem_flatMap.1 hy
          have := HD.out.2 z (List.mem_of_mem_take hz)
          simp [n2] at hy
          rcases hy with rfl | rfl
          · exact this.1
          · exact this.2)
        rw [flat2_len, List.length_take] at h1
        omega
      have HNX := mkH (n2_snoc L k x hx)
      have HN1 := mkH (rnum_any wr av cv ((L.take k).flatMap n2) x.1 HO.out (by omega) hokx.1)
      obtain ⟨p, hp⟩ : ∃ p, p = (L.take k).flatMap n2 := ⟨_, rfl⟩
      rw [← hp] at HN1 HNX HO hpl ⊢
      have hpl2 : (txt (p ++ [x.1])).length ≤ 1000009 := by
        have h0 := enc_len9 (n := x.1.toNat) (by have := hokx.1.1; have := hokx.1.2; omega)
        rw [txt_append, txt_one, List.length_append]
        unfold eI
        omega
      obtain ⟨v0, v1⟩ := HCK.out wr HBw.out
      have HOK2 := mkH hokx.2
      clear hx hxm d0 d1 hp hokx HO
      go_wp2_with fail
      refine HN1.out.mono ?_
      rintro y w5 ⟨a5, c5, rfl, hr5, hb5⟩
      have HB5 := mkH (HBw.out.trans (hb5.mono HBw.out.size))
      have HB5' := mkH (HB.out.trans (hb5.mono HB.out.size))
      have HN2 := mkH (rnum_any w5 a5 c5 (p ++ [x.1]) x.2 hr5.out (by omega) HOK2.out)
      rw [List.append_assoc, show [x.1] ++ [x.2] = [x.1, x.2] from rfl, ← HNX.out] at HN2
      obtain ⟨c0, c1, c2, c3⟩ := HC.out w5 HB5.out
      obtain ⟨v0, v1⟩ := HCK.out w5 HB5.out
      obtain ⟨q, hq⟩ : ∃ q, q = p ++ [x.1] := ⟨_, rfl⟩
      rw [← hq] at HN2 hpl2 ⊢
      clear hr5 hb5 HN1 hq HB HBw
      go_wp2_with fail
      refine HN2.out.mono ?_
      rintro y w6 ⟨a6, c6, rfl, hr6, hb6⟩
      have HB6 := mkH (HB5'.out.trans (hb6.mono HB5'.out.size))
      have HR6 := mkH hr6.out
      clear hr6 hb6 HN2 c0 c1 c2 c3 v0 v1
      go_wp2
      go_roundw
      case rel => exact ⟨k + 1, a6, c6, by omega, by go_num, rfl, HR6, HB6⟩
      case measure => simp [intOf]; omega
    · have hkl : k = L.length := by omega
      subst hkl
      rw [List.take_length] at HO ⊢
      have HO2 := HO
      have HRW : Hid (Row wr a2 (txt [s])) := mkH (HR3.out.below HB.out)
      have hs1 := run_string (P := Try.prog) Try.underlying79 Try.underlying5 Try.underlying9 HRW.out k2
      have hs2 := run_string (P := Try.prog) Try.underlying79 Try.underlying5 Try.underlying9 HO2.out cv
      clear HO HR3
      go_wp2
      go_ret
      exact ⟨_, _, rfl, rowT3 _ _ _ _ _, HBw.out.alloc HBw.out.size _⟩
end Go.Proofs.Ytcpmcfagibmboaa.Me

namespace Go.Proofs.Ytcpmcfagibmboaa.Rs
open Go.RowKit Pl Gf Gk Ct Cu La Lb
open Kt

set_option linter.unusedVariables false
set_option linter.unusedSimpArgs false
set_option maxRecDepth 20000

/-- A text is a number of slots. -/
def GoodS (bs : List UInt8) (n : Int) : Prop := Nums bs [n] ∧ n ≤ 1099511627776
theorem GoodS.inj {bs : List UInt8} {n m : Int} (h : GoodS bs n) (g : GoodS bs m) : m = n := by
  have := h.1.inj g.1
  simpa using this
/-- What readSlots answers. -/
def SlP (w : World) (bs : List UInt8) (x : Ending) (w' : World) : Prop := Below w.heap.size w w' ∧
  ((∃ n, GoodS bs n ∧ x = .returned (.tuple #[.int .i64 n, .bool true])) ∨ ((¬ ∃ n, GoodS bs n) ∧ x = .returned (.tuple #[.int .i64 0, .bool false])))

set_option maxHeartbeats 1000000 in
theorem readSlots_any (w : World) (bs : List UInt8) (hl : bs.length ≤ 1000) :
    Calls Try.prog 40 #[.string (S bs)] w (SlP w bs) := by
  go_enter Try.func40, Try.ntmps40
  go_wp2_with fail
  refine (numsOf_any w bs hl).mono ?_
  rintro e w1 ⟨hb, ⟨L, ao, cap, hn, rfl, ho⟩ | ⟨hn, rfl⟩⟩
  · have HB := mkH hb
    have HN := mkH hn
    obtain ⟨hlen, hrow⟩ := RowI.own ho
    by_cases h1 : L.length = 1
    · obtain ⟨x, rfl⟩ : ∃ x, L = [x] := List.length_eq_one_iff.1 h1
      obtain ⟨b, off, rfl, hc⟩ := hrow (by simp)
      have hc0 : w1.cell? ⟨b, off, none⟩ = some (.int .i64 x) := hc 0 (by simp)
      have hx := hn.2 x (by simp)
      have hx0 := hx.1
      clear hlen hrow hc ho hb hn hx h1
      simp only [List.length_cons, List.length_nil, Nat.zero_add]
      by_cases hgt : x ≤ 1099511627776
      · have HG := mkH (show GoodS bs x from ⟨HN.out, hgt⟩)
        have hgt2 : ¬ 1099511627776 < x := by omega
        go_wp2
        go_ret2
        exact ⟨HB.out, .inl ⟨x, HG.out, rfl⟩⟩
      · have HG := mkH (show ¬ ∃ n, GoodS bs n from fun ⟨n, h⟩ => by
          have := HN.out.inj h.1
          have h2 := h.2
          simp at this
          omega)
        have hgt2 : 1099511627776 < x := by omega
        go_wp2
        go_ret2
        exact ⟨HB.out, .inr ⟨HG.out, rfl⟩⟩
    · have HG := mkH (show ¬ ∃ n, GoodS bs n from fun ⟨n, h⟩ => by
          have := HN.out.inj h.1
          rw [← this] at h1
          exact h1 rfl)
      have hne : ¬ (L.length : Int) = 1 := by omega
      clear hlen hrow ho hb hn h1
      generalize L.length = n at *
      go_wp2
      go_ret2
      exact ⟨HB.out, .inr ⟨HG.out, rfl⟩⟩
  · have HB := mkH hb
    have HG := mkH (show ¬ ∃ n, GoodS bs n from fun ⟨n, h⟩ => hn _ h.1)
    clear hb hn
    go_wp2
    go_ret2
    exact ⟨HB.out, .inr ⟨HG.out, rfl⟩⟩
end Go.Proofs.Ytcpmcfagibmboaa.Rs

namespace Go.Proofs.Ytcpmcfagibmboaa.Mr
open Go.RowKit Go.Shelf Pl Gf Gk Ct Cu La Mp Cl Ma Cp
open Cr hiding some_of
open Kt
open At (RowT)
open Rs (GoodS)
set_option linter.unusedVariables false
set_option linter.unusedSimpArgs false
set_option maxRecDepth 20000

/-- Texts are the dump of this machine. -/
def GoodM (l : List (List UInt8)) (s e : Int) (ps : List Pc) (D : List Dd) : Prop := ∃ t0 t1 t2, l = [t0, t1, t2] ∧ GoodS t0 s ∧ Ld.Good t1 e ps ∧ GoodD t2 D
/-- What Revive answers. -/
def RvP (w : World) (l : List (List UInt8)) (x : Ending) (w' : World) : Prop := Below w.heap.size w w' ∧
  ((∃ s e ps D b m, GoodM l s e ps D ∧ ps.length ≤ 400 ∧ x = .returned (.tuple #[.pointer (some ⟨b, 0, none⟩), .int .i64 0]) ∧ Mk w' b m e ps s D ∧ w.heap.size ≤ b ∧ w.heap.size ≤ m) ∨ ((¬ ∃ s e ps D, GoodM l s e ps D) ∧ x = .returned (.tuple #[.pointer none, .int .i64 5])))
theorem not_len {l : List (List UInt8)} (h : l.length ≠ 3) : ¬ ∃ s e ps D, GoodM l s e ps D := by
  rintro ⟨s, e, ps, D, t0, t1, t2, rfl, -⟩
  exact h rfl
theorem not_0 {t0 t1 t2 : List UInt8} (h : ¬ ∃ n, GoodS t0 n) : ¬ ∃ s e ps D, GoodM [t0, t1, t2] s e ps D := by
  rintro ⟨s, e, ps, D, a, b, c, he, h0, -⟩
  cases he
  exact h ⟨s, h0⟩
theorem not_1 {t0 t1 t2 : List UInt8} (h : ¬ ∃ e ps, Ld.Good t1 e ps) : ¬ ∃ s e ps D, GoodM [t0, t1, t2] s e ps D := by
  rintro ⟨s, e, ps, D, a, b, c, he, h0, h1, -⟩
  cases he
  exact h ⟨e, ps, h1⟩
theorem not_2 {t0 t1 t2 : List UInt8} (h : ¬ ∃ D, GoodD t2 D) : ¬ ∃ s e ps D, GoodM [t0, t1, t2] s e ps D := by
  rintro ⟨s, e, ps, D, a, b, c, he, h0, h1, h2⟩
  cases he
  exact h ⟨D, h2⟩

set_option maxHeartbeats 4000000 in
theorem revive_any (w : World) (ao : Option Addr) (cap : Nat) (l : List (List UInt8)) (hr : RowT w ao l) (hl : ∀ t ∈ l, t.length ≤ 1000) (hll : l.length ≤ 1000000) :
    Calls Try.prog 15 #[.slice ao l.length cap] w (RvP w l) := by
  by_cases h3 : l.length = 3
  · obtain ⟨t0, t1, t2, rfl⟩ : ∃ t0 t1 t2, l = [t0, t1, t2] := by
      match l, h3 with
      | [a, b, c], _ => exact ⟨a, b, c, rfl⟩
    obtain ⟨b, off, rfl, hc⟩ := hr (by simp)
    have hc0 : w.cell? ⟨b, off, none⟩ = some (.string (S t0)) := hc 0 (by simp)
    have hc1 : w.cell? ⟨b, off + 1, none⟩ = some (.string (S t1)) := hc 1 (by simp)
    have hc2 : w.cell? ⟨b, off + 2, none⟩ = some (.string (S t2)) := hc 2 (by simp)
    have hblt := World.block_lt_of_cell? w _ hc0
    have l0 := hl t0 (by simp)
    have l1 := hl t1 (by simp)
    have l2 := hl t2 (by simp)
    have HC : Hid (∀ W, Below w.heap.size w W → W.cell? ⟨b, off + 1, none⟩ = some (.string (S t1)) ∧ W.cell? ⟨b, off + 2, none⟩ = some (.string (S t2))) := mkH (fun W hb => ⟨(hb.cell (p := ⟨b, off + 1, none⟩) hblt).trans hc1, (hb.cell (p := ⟨b, off + 2, none⟩) hblt).trans hc2⟩)
    have HS := mkH (Rs.readSlots_any w t0 l0)
    have HL := mkH (fun W => Lf.load_any W t1 l1)
    have HCL := mkH (fun W => Rc.readClients_any W t2 l2)
    clear hr hc hl hll h3 hc1 hc2
    simp only [List.length_cons, List.length_nil, Nat.zero_add, Nat.reduceAdd]
    go_enter Try.func15, Try.ntmps15
    go_wp2_with fail
    refine HS.out.mono ?_
    rintro x w2 ⟨hb2, ⟨s, hs, rfl⟩ | ⟨hs, rfl⟩⟩
    · have HB2 := mkH hb2
      have HGS := mkH hs
      obtain ⟨hc1, hc2⟩ := HC.out w2 hb2
      clear hb2 hs HS hc0
      go_wp2_with fail
      refine (HL.out w2).mono ?_
      rintro x w3 ⟨hb3, ⟨e, ps, a, c, hg, hpl, rfl, hrd⟩ | ⟨hg, rfl⟩⟩
      · have hal : Below w3.heap.size w3 (w3.alloc (.cells #[.int .i64 e, .slice a ps.length c] 24)) := (Below.refl _ w3).alloc (Nat.le_refl _) _
        have HX : Hid (Bx (w3.alloc (.cells #[.int .i64 e, .slice a ps.length c] 24)) w3.heap.size #[.int .i64 e, .slice a ps.length c] 24) := mkH (Bx.new _ _ _)
        have HRD := mkH (hrd.below hal)
        have HB3 := mkH (HB2.out.trans ((hb3.trans (hal.mono hb3.size)).mono HB2.out.size))
        have HGC := mkH hg
        clear hb3 hg hrd hal HL hc1 hc2
        go_upto_region 7 with fail
        generalize w3.heap.size = B6 at *
        generalize w3.alloc (.cells #[.int .i64 e, .slice a ps.length c] 24) = W3 at *
        obtain ⟨-, hc2⟩ := HC.out W3 HB3.out
        go_wp2_with fail
        refine (HCL.out W3).mono ?_
        rintro x w4 ⟨hb4, ⟨D, m, hg, rfl, hm, hmm⟩ | ⟨hg, rfl⟩⟩
        · have hx4 := HX.out.bel hb4
          have c0 : w4.cell? ⟨B6, 0, none⟩ = some (.int .i64 e) := hx4.cell 0 _ rfl
          have c1 : w4.cell? ⟨B6, 1, none⟩ = some (.slice a ps.length c) := hx4.cell 1 _ rfl
          have HRD4 := mkH (HRD.out.below hb4)
          have HB4 := mkH (HB3.out.trans (hb4.mono HB3.out.size))
          have HG : Hid (GoodM [t0, t1, t2] s e ps D) := mkH ⟨t0, t1, t2, rfl, HGS.out, HGC.out, hg⟩
          have HM := mkH hm
          have HMM : Hid (w.heap.size ≤ m) := mkH (Nat.le_trans HB3.out.size hmm)
          clear hx4 hg hm hmm hb4 HCL hc2
          go_wp2
          go_ret2
          have hal : Below w4.heap.size w4 (w4.alloc (.cells #[.int .i64 e, .slice a ps.length c, .int .i64 s, .map (some m)] 90)) := (Below.refl _ w4).alloc (Nat.le_refl _) _
          exact ⟨HB4.out.trans (hal.mono HB4.out.size), .inl ⟨s, e, ps, D, w4.heap.size, m, HG.out, hpl, rfl, ⟨⟨a, c, Bx.new _ _ _, HRD4.out.below hal⟩, HM.out.below hal⟩, HB4.out.size, HMM.out⟩⟩
        · have HB4 := mkH (HB3.out.trans (hb4.mono HB3.out.size))
          have HG := mkH (not_2 (t0 := t0) (t1 := t1) hg)
          clear hb4 hg HCL hc2
          go_wp2
          go_ret2
          exact ⟨HB4.out, .inr ⟨HG.out, rfl⟩⟩
      · have HB3 := mkH (HB2.out.trans (hb3.mono HB2.out.size))
        have HG := mkH (not_1 (t0 := t0) (t2 := t2) hg)
        clear hb3 hg HL hc1 hc2
        go_wp2
        go_ret2
        exact ⟨HB3.out.alloc HB3.out.size _, .inr ⟨HG.out, rfl⟩⟩
    · have HB2 := mkH hb2
      have HG := mkH (not_0 (t1 := t1) (t2 := t2) hs)
      clear hb2 hs HS
      go_wp2
      go_ret2
      exact ⟨HB2.out, .inr ⟨HG.out, rfl⟩⟩
  · have HG := mkH (not_len h3)
    have hne : ¬ (l.length : Int) = 3 := by omega
    clear hr hl h3
    go_enter Try.func15, Try.ntmps15
    go_wp2
    go_ret2
    exact ⟨Below.refl _ _, .inr ⟨HG.out, rfl⟩⟩
end Go.Proofs.Ytcpmcfagibmboaa.Mr

namespace Go.Proofs.Ytcpmcfagibmboaa.Hp
open Go.RowKit Kt Pl Rd
set_option linter.unusedVariables false
set_option linter.unusedSimpArgs false
set_option maxRecDepth 20000

/-- What is read, or that it is refused. -/
def RdN (bs : List UInt8) (e : Ending) : Prop := (readNum bs).2.2 = 0 ∧ e = ans (readNum bs) ∨ (readNum bs).2.2 ≠ 0 ∧ ∃ er : Nat, er ≠ 0 ∧ e = .returned (.tuple #[.int .i64 0, .int .i64 0, .int .i64 (er : Int)])
theorem rd_end (bs : List UInt8) (r i n : Nat) (h : i = bs.length) : (rd bs r i n).2.2 ≠ 0 := by
  cases r with
  | zero => simp [rd]
  | succ r => rw [rd, if_pos h]; simp
theorem rd_bad (bs : List UInt8) (r i n : Nat) (h : ¬ i = bs.length) (hb : 4611686018427387904 < n + dg (bs.getD i 0).toNat i ∨ ((bs.getD i 0).toNat = 0 ∧ 0 < i)) : (rd bs r i n).2.2 ≠ 0 := by
  cases r with
  | zero => simp [rd]
  | succ r => rw [rd, if_neg h, if_pos (by unfold dg at hb; exact hb)]; simp
theorem rd_fin (bs : List UInt8) (r i n : Nat) (h : ¬ i = bs.length) (hb : ¬ (4611686018427387904 < n + dg (bs.getD i 0).toNat i ∨ ((bs.getD i 0).toNat = 0 ∧ 0 < i))) (hc : (bs.getD i 0).toNat < 128) : rd bs (r + 1) i n = (n + dg (bs.getD i 0).toNat i, i + 1, 0) := by
  unfold dg at *
  rw [rd, if_neg h, if_neg hb, if_pos hc]
theorem rd_next (bs : List UInt8) (r i n : Nat) (h : ¬ i = bs.length) (hb : ¬ (4611686018427387904 < n + dg (bs.getD i 0).toNat i ∨ ((bs.getD i 0).toNat = 0 ∧ 0 < i))) (hc : ¬ (bs.getD i 0).toNat < 128) : rd bs (r + 1) i n = rd bs r (i + 1) (n + dg (bs.getD i 0).toNat i) := by
  unfold dg at *
  rw [rd, if_neg h, if_neg hb, if_neg hc]
/-- The weight of a byte's place. -/
def wt (k : Nat) : Nat := 2 ^ (7 * min k 8)
theorem wt_bd (k : Nat) : 1 ≤ wt k ∧ wt k ≤ 72057594037927936 := by
  unfold wt
  exact ⟨Nat.one_le_two_pow, Nat.le_trans (Nat.pow_le_pow_right (by omega) (show 7 * min k 8 ≤ 56 by omega)) (by decide)⟩
theorem wt_next {k : Nat} (h : k < 8) : wt k * 128 = wt (k + 1) := by
  unfold wt
  rw [show min k 8 = k by omega, show min (k + 1) 8 = k + 1 by omega, show 7 * (k + 1) = 7 * k + 7 by omega, Nat.pow_add]
theorem wt_last {k : Nat} (h : ¬ k < 8) : wt k = wt (k + 1) := by
  unfold wt
  rw [show min k 8 = 8 by omega, show min (k + 1) 8 = 8 by omega]
theorem dg_wt {c k : Nat} (h : k ≤ 8) : dg c k = c % 128 * wt k := by unfold dg wt; rw [show min k 8 = k by omega]
theorem big_iff {c k q : Nat} (h : k ≤ 8) (hq : q < 2 ^ (7 * k)) : 4611686018427387904 < q + dg c k ↔ k = 8 ∧ (64 < c % 128 ∨ (c % 128 = 64 ∧ 0 < q)) := by
  by_cases h8 : k = 8
  · subst h8
    have e : dg c 8 = c % 128 * 72057594037927936 := by unfold dg; rfl
    have hq2 : q < 72057594037927936 := hq
    rw [e]
    omega
  · have h1 := (dg_bd (c := c) (k := k) (by omega) hq).1
    have h2 : 2 ^ (7 * (k + 1)) ≤ 72057594037927936 := Nat.le_trans (Nat.pow_le_pow_right (by omega) (show 7 * (k + 1) ≤ 56 by omega)) (by decide)
    omega

set_option maxHeartbeats 16000000 in
theorem rreadNum_any (w : World) (ao : Option Addr) (cap : Nat) (bs : List UInt8) (hr : Row w ao bs) (hlen : bs.length ≤ 9223372036854775807) :
    Calls Try.prog 38 #[.slice ao bs.length cap] w fun e w' => RdN bs e ∧ w' = w := by
  have HR := mkH hr
  clear hr
  go_enter Try.func38, Try.ntmps38
  go_wp2_with fail
  go_loopw [5, 6, 7] (fun nv wv iv W => ∃ k q p : Nat, k ≤ 9 ∧ k ≤ bs.length ∧ iv = .int .i64 k ∧ nv = .int .i64 q ∧ wv = .int .i64 p ∧ Hid (p = wt k) ∧ Hid (q < 2 ^ (7 * k)) ∧ Hid (rd bs (9 - k) k q = readNum bs) ∧ W = w) (fun _ _ iv _ => bs.length - (intOf iv).toNat)
  case atStart => exact ⟨0, 0, 1, by omega, by omega, rfl, rfl, rfl, rfl, by simp [Hid], rfl, rfl⟩
  case round =>
    obtain ⟨k, q, p, hk, hkl, rfl, rfl, rfl, HP, HQ, HD, hw⟩ := hrel
    subst hw
    by_cases hlt : k < bs.length
    · obtain ⟨b, off, rfl, hc⟩ := HR.out (by omega)
      have hcell := hc k hlt
      obtain ⟨c, hcc⟩ : ∃ c, (bs.getD k 0).toNat = c := ⟨_, rfl⟩
      rw [hcc] at hcell
      have hc256 : c < 256 := by rw [← hcc]; exact (bs.getD k 0).toNat_lt
      have HC := mkH hcc
      have hi : (k : Int) < (bs.length : Int) := by omega
      have hi0 : (0 : Int) ≤ (k : Int) := by omega
      clear hc hcc
      by_cases h9 : k = 9
      · have HE : Hid ((readNum bs).2.2 ≠ 0) := mkH (by rw [← HD.out, h9]; simp [rd])
        subst h9
        go_wp2
        go_ret3
        exact ⟨.inr ⟨HE.out, 5, by decide, rfl⟩, rfl⟩
      · have h8l : k ≤ 8 := by omega
        obtain ⟨d, hd⟩ : ∃ d, c % 128 = d := ⟨_, rfl⟩
        have hd1 : d < 128 := by omega
        have tm : (c : Int).tmod 128 = (d : Int) := by rw [Int.tmod_eq_emod_of_nonneg (by omega)]; omega
        have h9i : ¬ (k : Int) = 9 := by omega
        have HB := mkH (big_iff (c := c) h8l HQ.out)
        have hwb := wt_bd k
        rw [← HP.out] at hwb
        obtain ⟨hp1, hp2⟩ := hwb
        by_cases hz : 0 < k ∧ c = 0
        · obtain ⟨hk0, hc0⟩ := hz
          subst hc0
          have hk0i : (0 : Int) < (k : Int) := by omega
          have HE : Hid ((readNum bs).2.2 ≠ 0) := mkH (by rw [← HD.out]; exact rd_bad bs _ _ _ (by omega) (.inr ⟨HC.out, hk0⟩))
          clear hd tm HB
          go_wp2
          go_ret3
          exact ⟨.inr ⟨HE.out, 5, by decide, rfl⟩, rfl⟩
        · by_cases ho : k = 8 ∧ (64 < d ∨ (d = 64 ∧ 0 < q))
          · have HE : Hid ((readNum bs).2.2 ≠ 0) := mkH (by rw [← HD.out]; exact rd_bad bs _ _ _ (by omega) (.inl (by rw [HC.out]; exact HB.out.mpr (by rw [hd]; exact ho))))
            obtain ⟨h8, ho⟩ := ho
            subst h8
            have hc0 : ¬ c = 0 := by omega
            have hd0 : 0 < d := by omega
            clear hz hd HB HQ HD HP
            rcases ho with ho | ⟨ho, hq0⟩
            · have hoi : (64 : Int) < (d : Int) := by omega
              go_wp2
              go_ret3
              exact ⟨.inr ⟨HE.out, 5, by decide, rfl⟩, rfl⟩
            · subst ho
              go_wp2
              go_ret3
              exact ⟨.inr ⟨HE.out, 5, by decide, rfl⟩, rfl⟩
          · have HNB : Hid (¬ (4611686018427387904 < q + dg (bs.getD k 0).toNat k ∨ ((bs.getD k 0).toNat = 0 ∧ 0 < k))) := mkH (by rw [HC.out]; rintro (h | h); exact ho (by have := HB.out.mp h; rw [hd] at this; exact this); exact hz ⟨h.2, h.1⟩)
            obtain ⟨m, hm⟩ : ∃ m, d * p = m := ⟨_, rfl⟩
            have hmi : (d : Int) * (p : Int) = (m : Int) := by rw [← hm]; simp
            have HM : Hid (dg c k = m) := mkH (by rw [dg_wt h8l, hd, ← HP.out, hm])
            have hqm : q + m ≤ 4611686018427387904 := by have h1 := HNB.out; rw [HC.out, HM.out] at h1; omega
            have HQ2 : Hid (q + m < 2 ^ (7 * (k + 1))) := mkH (by have h1 := (dg_bd (c := c) (k := k) (by omega) HQ.out).1; rw [HM.out] at h1; exact h1)
            have HF : Hid (c < 128 → readNum bs = (q + m, k + 1, 0)) := mkH (fun h => by rw [← HD.out, show 9 - k = (8 - k) + 1 by omega, rd_fin bs _ _ _ (by omega) HNB.out (by rw [HC.out]; exact h), HC.out, HM.out])
            have HN : Hid (¬ c < 128 → rd bs (9 - (k + 1)) (k + 1) (q + m) = readNum bs) := mkH (fun h => by rw [← HD.out, show 9 - k = (8 - k) + 1 by omega, rd_next bs _ _ _ (by omega) HNB.out (by rw [HC.out]; exact h), HC.out, HM.out, show 9 - (k + 1) = 8 - k by omega])
            have HW1 : Hid (k < 8 → p * 128 = wt (k + 1)) := mkH (fun h => by rw [HP.out]; exact wt_next h)
            have HW2 : Hid (¬ k < 8 → p = wt (k + 1)) := mkH (fun h => by rw [HP.out]; exact wt_last h)
            have hpb : k < 8 → p * 128 ≤ 72057594037927936 := fun h => by rw [HW1.out h]; exact (wt_bd _).2
            clear HB HQ HD HP HNB HM
            by_cases hk8 : k < 8
            · have h8i : ¬ (k : Int) = 8 := by omega
              have hk8i : (k : Int) < 8 := by omega
              by_cases hk0 : 0 < k
              · have hk0i : (0 : Int) < (k : Int) := by omega
                have hc0 : ¬ c = 0 := fun h => hz ⟨hk0, h⟩
                have hkb : ((k : Int) == 9) = false := by simp; omega
                have hcb : ((c : Int) == 0) = false := by simp; omega
                clear hz ho
                by_cases hd0 : 0 < d
                · have hd0i : (0 : Int) < (d : Int) := by omega
                  by_cases hc1 : c < 128
                  · have hc1i :  (c : Int) < 128 := by omega
                    have HA := mkH (HF.out hc1)
                    clear HF HN HW1 HW2 HQ2 hpb
                    go_wp2
                    go_ret3
                    exact ⟨.inl (by rw [HA.out]; exact ⟨rfl, by simp [ans] <;> omega⟩), rfl⟩
                  · have hc1i : ¬ (c : Int) < 128 := by omega
                    have HA := mkH (HN.out hc1)
                    have HW := mkH (HW1.out hk8)
                    have hpb2 := hpb hk8
                    clear HF HN HW1 HW2 hpb
                    go_wp2_with fail
                    exact ⟨⟨k + 1, q + m, p * 128, by omega, by omega, by go_num, by go_num, by go_num, HW, HQ2, HA, trivial⟩, by simp [intOf]; omega⟩
                · have hd0i : ¬ (0 : Int) < (d : Int) := by omega
                  by_cases hc1 : c < 128
                  · exact absurd hc0 (by omega)
                  · have hc1i : ¬ (c : Int) < 128 := by omega
                    have HA := mkH (HN.out hc1)
                    have HW := mkH (HW1.out hk8)
                    have hpb2 := hpb hk8
                    clear HF HN HW1 HW2 hpb
                    go_wp2_with fail
                    exact ⟨⟨k + 1, q + m, p * 128, by omega, by omega, by go_num, by go_num, by go_num, HW, HQ2, HA, trivial⟩, by simp [intOf]; omega⟩
              · have hk0i : ¬ (0 : Int) < (k : Int) := by omega
                clear hz ho
                by_cases hd0 : 0 < d
                · have hd0i : (0 : Int) < (d : Int) := by omega
                  by_cases hc1 : c < 128
                  · have hc1i :  (c : Int) < 128 := by omega
                    have HA := mkH (HF.out hc1)
                    clear HF HN HW1 HW2 HQ2 hpb
                    go_wp2
                    go_ret3
                    exact ⟨.inl (by rw [HA.out]; exact ⟨rfl, by simp [ans] <;> omega⟩), rfl⟩
                  · have hc1i : ¬ (c : Int) < 128 := by omega
                    have HA := mkH (HN.out hc1)
                    have HW := mkH (HW1.out hk8)
                    have hpb2 := hpb hk8
                    clear HF HN HW1 HW2 hpb
                    go_wp2_with fail
                    exact ⟨⟨k + 1, q + m, p * 128, by omega, by omega, by go_num, by go_num, by go_num, HW, HQ2, HA, trivial⟩, by simp [intOf]; omega⟩
                · have hd0i : ¬ (0 : Int) < (d : Int) := by omega
                  by_cases hc1 : c < 128
                  · have hc1i :  (c : Int) < 128 := by omega
                    have HA := mkH (HF.out hc1)
                    clear HF HN HW1 HW2 HQ2 hpb
                    go_wp2
                    go_ret3
                    exact ⟨.inl (by rw [HA.out]; exact ⟨rfl, by simp [ans] <;> omega⟩), rfl⟩
                  · have hc1i : ¬ (c : Int) < 128 := by omega
                    have HA := mkH (HN.out hc1)
                    have HW := mkH (HW1.out hk8)
                    have hpb2 := hpb hk8
                    clear HF HN HW1 HW2 hpb
                    go_wp2_with fail
                    exact ⟨⟨k + 1, q + m, p * 128, by omega, by omega, by go_num, by go_num, by go_num, HW, HQ2, HA, trivial⟩, by simp [intOf]; omega⟩
            · obtain rfl : k = 8 := by omega
              have hc0 : ¬ c = 0 := fun h => hz ⟨by omega, h⟩
              clear hz
              by_cases hd0 : 0 < d
              · have hd0i : (0 : Int) < (d : Int) := by omega
                have hd64 : ¬ 64 < d := fun h => ho ⟨rfl, .inl h⟩
                have hd64i : ¬ (64 : Int) < (d : Int) := by omega
                by_cases hde : d = 64
                · have hq0 : q = 0 := by have : ¬ 0 < q := fun h => ho ⟨rfl, .inr ⟨hde, h⟩⟩; omega
                  subst hde
                  subst hq0
                  clear ho
                  by_cases hc1 : c < 128
                  · have hc1i :  (c : Int) < 128 := by omega
                    have HA := mkH (HF.out hc1)
                    clear HF HN HW1 HW2 HQ2 hpb
                    go_wp2
                    go_ret3
                    exact ⟨.inl (by rw [HA.out]; exact ⟨rfl, by simp [ans] <;> omega⟩), rfl⟩
                  · have hc1i : ¬ (c : Int) < 128 := by omega
                    have HA := mkH (HN.out hc1)
                    have HW := mkH (HW2.out (by omega))
                    clear HF HN HW1 HW2 hpb
                    go_wp2_with fail
                    exact ⟨⟨8 + 1, 0 + m, p, by omega, by omega, by go_num, by go_num, by go_num, HW, HQ2, HA, trivial⟩, by simp [intOf]; omega⟩
                · have hdei : ¬ (d : Int) = 64 := by omega
                  clear ho
                  by_cases hc1 : c < 128
                  · have hc1i :  (c : Int) < 128 := by omega
                    have HA := mkH (HF.out hc1)
                    clear HF HN HW1 HW2 HQ2 hpb
                    go_wp2
                    go_ret3
                    exact ⟨.inl (by rw [HA.out]; exact ⟨rfl, by simp [ans] <;> omega⟩), rfl⟩
                  · have hc1i : ¬ (c : Int) < 128 := by omega
                    have HA := mkH (HN.out hc1)
                    have HW := mkH (HW2.out (by omega))
                    clear HF HN HW1 HW2 hpb
                    go_wp2_with fail
                    exact ⟨⟨8 + 1, q + m, p, by omega, by omega, by go_num, by go_num, by go_num, HW, HQ2, HA, trivial⟩, by simp [intOf]; omega⟩
              · have hd0i : ¬ (0 : Int) < (d : Int) := by omega
                clear ho
                have hc1 : ¬ c < 128 := by omega
                have hc1i : ¬ (c : Int) < 128 := by omega
                have HA := mkH (HN.out hc1)
                have HW := mkH (HW2.out (by omega))
                clear HF HN HW1 HW2 hpb
                go_wp2_with fail
                exact ⟨⟨8 + 1, q + m, p, by omega, by omega, by go_num, by go_num, by go_num, HW, HQ2, HA, trivial⟩, by simp [intOf]; omega⟩
    · have HE : Hid ((readNum bs).2.2 ≠ 0) := mkH (by rw [← HD.out]; exact rd_end bs _ _ _ (by omega))
      have hge : ¬ (k : Int) < (bs.length : Int) := by omega
      go_wp2
      go_ret3
      exact ⟨.inr ⟨HE.out, 4, by decide, rfl⟩, rfl⟩
end Go.Proofs.Ytcpmcfagibmboaa.Hp
