/-
  What the laws of sessions share: calls that came in; the laws' own maps beside a table.
-/
import Derived.Test.YtenkgpfeifflnaaGreatSeW
import Derived.Test.YtenkgpfeifflnaaGreatSeF
import Derived.Test.YtenkgpfeifflnaaGreatWiSr2
namespace Go.Proofs.YtenkgpfeifflnaaGreat.Sl
open Go.RowKit Kt Pl Wi Wk Wa Sm Sa Sb Sc Sd Sf
open Dk (Fr Nx)
open At (RowT)
open Wfr (RpIn)
set_option linter.unusedVariables false
set_option linter.unusedSimpArgs false
set_option maxRecDepth 20000

/-- A call that came in. -/
structure Ac where
  ki : Int
  cl : Int
  nu : Int
  r : Rp
  ga : Option Addr
  gc : Nat
  da : Option Addr
  dc : Nat
  ra : Option Addr
  rc : Nat
  tx : List Bs
  ta : Option Addr
  tc : Nat
def aC (x : Ac) : List Value := [.int .i64 x.ki, .int .i64 x.cl, .int .i64 x.nu, .int .i64 x.r.err, .int .i64 x.r.seq, .int .i64 x.r.n, .slice x.ga x.r.got.length x.gc, .slice x.da x.r.data.length x.dc, .slice x.ra x.r.about.length x.rc, .slice x.ta x.tx.length x.tc]
theorem aC_len (x : Ac) : (aC x).length = 10 := rfl
abbrev RowA := RowS 10 aC
structure AcIn (w : World) (x : Ac) : Prop where
  rp : RpIn w x.r x.ga x.gc x.da x.dc x.ra x.rc
  t : RowT w x.ta x.tx
  tl : x.tx.length ≤ x.tc
  tb : x.tc ≤ 9223372036854775807
  c1 : -9223372036854775808 ≤ x.cl
  c2 : x.cl ≤ 9223372036854775807
  n1 : -9223372036854775808 ≤ x.nu
  n2 : x.nu ≤ 9223372036854775807
theorem rpIn_below {w w' : World} {r : Rp} {ga da ra : Option Addr} {gc dc rc : Nat} (h : RpIn w r ga gc da dc ra rc) (hb : Below w.heap.size w w') : RpIn w' r ga gc da dc ra rc := ⟨h.mem.below hb, h.g1, h.d1, h.a1, h.a2, h.t⟩
theorem AcIn.below {w w' : World} {x : Ac} (h : AcIn w x) (hb : Below w.heap.size w w') : AcIn w' x := ⟨rpIn_below h.rp hb, h.t.below hb, h.tl, h.tb, h.c1, h.c2, h.n1, h.n2⟩
theorem atA {w : World} {ao : Option Addr} {l : List Ac} (h : RowA w ao l) {i : Nat} {x : Ac} (hx : l[i]? = some x) : ∃ b off, ao = some ⟨b, off, none⟩ ∧ w.cell? ⟨b, off + i * 10, none⟩ = some (.int .i64 x.ki) ∧
    w.cell? ⟨b, off + i * 10 + 1, none⟩ = some (.int .i64 x.cl) ∧ w.cell? ⟨b, off + i * 10 + 2, none⟩ = some (.int .i64 x.nu) ∧ w.cell? ⟨b, off + i * 10 + 9, none⟩ = some (.slice x.ta x.tx.length x.tc) ∧
    (loadVar 34 ⟨b, off + i * 10 + 3, none⟩).run Tryz.prog w = .ok (.agg (Pv x.r x.ga x.gc x.da x.dc x.ra x.rc)) w := by
  obtain ⟨b, off, e, hc⟩ := h (by have := lt_of hx; omega)
  refine ⟨b, off, e, hc i x hx 0 _ rfl, hc i x hx 1 _ rfl, hc i x hx 2 _ rfl, hc i x hx 9 _ rfl, ?_⟩
  have := run_load_agg (P := Tryz.prog) (w := w) 34 _ Tryz.underlying34 rfl b (off + i * 10 + 3) (Pv x.r x.ga x.gc x.da x.dc x.ra x.rc).toList infoP (fun j v hv => by
    rw [Nat.add_assoc]
    refine hc i x hx (3 + j) v ?_
    rcases j with _ | _ | _ | _ | _ | _ | j <;> first | exact hv | (simp [Pv] at hv))
  simpa using this

/-- 1 + (x%n+n)%n. -/
theorem mod_in (x : Int) (n : Int) (h0 : 0 < n) (h1 : n ≤ 1000000) : ∃ m : Int, wrap64 (1 + (wrap64 (x.tmod n + n)).tmod n) = m ∧ 1 ≤ m ∧ m ≤ n := by
  have hr : -n < x.tmod n ∧ x.tmod n < n := ⟨Int.lt_tmod_of_pos _ h0, Int.tmod_lt_of_pos _ h0⟩
  obtain ⟨r, hr1⟩ : ∃ r, x.tmod n = r := ⟨_, rfl⟩
  rw [hr1] at hr ⊢
  have e1 : wrap64 (r + n) = r + n := by unfold wrap64; omega
  rw [e1, Int.tmod_eq_emod_of_nonneg (by omega)]
  have h2 := Int.emod_nonneg (r + n) (show n ≠ 0 by omega)
  have h3 := Int.emod_lt_of_pos (r + n) h0
  obtain ⟨q, hq⟩ : ∃ q, (r + n) % n = q := ⟨_, rfl⟩
  rw [hq] at h2 h3 ⊢
  exact ⟨1 + q, by unfold wrap64; omega, by omega, by omega⟩

/-- The law's map of numbers, and of replies. -/
abbrev kI : Int × Int → Int := Prod.fst
def vI (p : Int × Int) : Value := .int .i64 p.2
structure Y where
  k : Int
  r : Rp
  ga : Option Addr
  gc : Nat
  da : Option Addr
  dc : Nat
  ra : Option Addr
  rc : Nat
def Y.v (y : Y) : Value := .agg (Pv y.r y.ga y.gc y.da y.dc y.ra y.rc)
def Y.p (y : Y) : Int × Rp := (y.k, y.r)
abbrev MI := Mw kI vI Tryz.prog 3
abbrev MY := Mw Y.k Y.v Tryz.prog 3
theorem zI (w : World) : (zeroValue 3).run Tryz.prog w = .ok (.int .i64 0) w := by kernel_rfl

theorem srt_len : ∀ (l : List E) (a b : Int), Srt E.k l → (∀ e ∈ l, a ≤ e.k ∧ e.k ≤ b) → (l.length : Int) ≤ max 0 (b - a + 1)
  | [], a, b, _, _ => by simp; omega
  | q :: l, a, b, hs, h => by
    obtain ⟨h1, h2⟩ := List.pairwise_cons.1 hs
    have hq := h q (by simp)
    have := srt_len l (q.k + 1) b h2 (fun e he => ⟨by have := h1 e he; omega, (h e (by simp [he])).2⟩)
    simp only [List.length_cons]
    omega
theorem lastN_of {l : List E} {c : Int} {e : E} (h : atX E.k l c = some e) : lastN l c = e.n := by unfold lastN; rw [h]
theorem at_num {l : List E} {c : Int} (h : 1 ≤ lastN l c) : ∃ e, atX E.k l c = some e := by
  unfold lastN at h
  cases ha : atX E.k l c with
  | none => rw [ha] at h; simp at h
  | some e => exact ⟨e, rfl⟩
end Go.Proofs.YtenkgpfeifflnaaGreat.Sl
