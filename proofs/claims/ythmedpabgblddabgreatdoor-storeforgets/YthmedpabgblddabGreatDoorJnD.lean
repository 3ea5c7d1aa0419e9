/-
  What the laws' 'has' tells.
  A list of calls that came in; 'plays' of the laws of layer 8.
  The contract of the laws' 'works'.
  What the laws of layer 8 share: what is kept behind a sync and a crash; what 'has' told, element by element.
  Calls that come in as data: their parts.
-/
import Derived.Test.YthmedpabgblddabGreatDoorJnB
import Derived.Lib.ConvBytes
import Derived.Lib.SlBytesConst
import Derived.BigQuiet
import Derived.OpenShut
import Derived.ChangeOld
import Derived.WideShapes
import Derived.ProofKit
import Derived.Deep.Slices
namespace Go.Proofs.YthmedpabgblddabGreatDoor.To
open Go.RowKit Kt Dk Dp Da Dc De Tp Tm Pl Cs Cf Cn Cv Sq Sr Sa Sb Sc Se St Sv Rd Wr Ta Tb0 Tc Td Te Tf Tg Tt Th Ti Tj Tk Tl Tn Go.Maps
set_option linter.unusedVariables false
set_option maxRecDepth 20000

/-- What a slot has, as the law holds it. -/
structure Hx where
  k : Nat
  bal : Nat
  ao : Option Addr
  cap : Nat
  val : List UInt8
def hC (x : Hx) : List Value := [.int .i64 (x.k : Int), .int .i64 (x.bal : Int), .slice x.ao x.val.length x.cap]
def hF (l : List Hx) : List Value := l.flatMap hC
theorem hF_len (l : List Hx) : (hF l).length = l.length * 3 := by
  induction l with
  | nil => rfl
  | cons x l ih => simp only [hF, List.flatMap_cons, List.length_append] at ih ⊢; rw [ih]; simp [hC]; omega
theorem hF_app (a b : List Hx) : hF (a ++ b) = hF a ++ hF b := by simp [hF]
theorem hF_at (l : List Hx) : ∀ (i : Nat) (x : Hx), l[i]? = some x → ∀ j, j < 3 → (hF l)[i * 3 + j]? = (hC x)[j]? := by
  induction l with
  | nil => intro i x h; cases h
  | cons y l ih =>
    intro i x h j hj
    have e : hF (y :: l) = hC y ++ hF l := rfl
    cases i with
    | zero =>
      simp at h; subst h
      rw [e, Nat.zero_mul, Nat.zero_add, List.getElem?_append_left (by simp [hC]; omega)]
    | succ i =>
      rw [e, List.getElem?_append_right (by simp [hC]; omega), show (i + 1) * 3 + j - (hC y).length = i * 3 + j by simp [hC]; omega]
      exact ih i x (by simpa using h) j hj
def hV (x : Hx) : Nat × V := (x.k, ⟨x.bal, x.val⟩)
/-- A slice of such, of the call's own. -/
structure Hs (lo : Nat) (W : World) (v : Value) (l : List Hx) : Prop where
  own : W.ownsRow lo 32 3 v l.length (hF l)
  ok : ∀ x ∈ l, Row W x.ao x.val ∧ (x.val.length ≤ x.cap ∧ x.cap ≤ 9223372036854775807) ∧ ∀ b off, x.ao = some ⟨b, off, none⟩ → 0 < x.val.length → lo ≤ b ∧ v.ownBlock ≠ some b
theorem row_lt {W : World} {ao : Option Addr} {bs : List UInt8} (hx : Row W ao bs) : ∀ b off, ao = some ⟨b, off, none⟩ → 0 < bs.length → b < W.heap.size := fun b off e h0 => by
  obtain ⟨b', off', e', hc⟩ := hx h0
  rw [e] at e'
  simp only [Option.some.injEq, Addr.mk.injEq] at e'
  obtain ⟨rfl, rfl, -⟩ := e'
  exact World.block_lt_of_cell? W _ (hc 0 h0)
theorem Hs.keep {lo : Nat} {W W' : World} {v : Value} {l : List Hx} (h : Hs lo W v l) (hk : ∀ k, lo ≤ k → k < W.heap.size → W'.heap[k]? = W.heap[k]?) : Hs lo W' v l := by
  refine ⟨Sa.own_keeps h.own (fun g hg => hk g (h.own.lt g hg).1 (h.own.lt g hg).2), fun x hx => ⟨fun h0 => ?_, (h.ok x hx).2⟩⟩
  obtain ⟨b, off, e, hc⟩ := (h.ok x hx).1 h0
  refine ⟨b, off, e, fun i hi => ?_⟩
  rw [← hc i hi]
  exact World.cell?_of_block (w := W) (hk b ((h.ok x hx).2.2 b off e h0).1 (row_lt (h.ok x hx).1 b off e h0))
theorem Hs.below {lo : Nat} {W W' : World} {v : Value} {l : List Hx} (h : Hs lo W v l) (hb : Below W.heap.size W W') : Hs lo W' v l := h.keep (fun k _ hk => hb.block k hk)
theorem Hs.nil (lo : Nat) (W : World) : Hs lo W (.slice none 0 0) [] := ⟨by simpa [hF] using World.ownsRow_nil W lo 32 3, fun x hx => by simp at hx⟩
theorem Hs.snoc {lo : Nat} {W W' : World} {v v' : Value} {l : List Hx} {x : Hx} (h : Hs lo W v l) (hx : Row W x.ao x.val) (hxc : x.val.length ≤ x.cap ∧ x.cap ≤ 9223372036854775807) (hlo : ∀ b off, x.ao = some ⟨b, off, none⟩ → 0 < x.val.length → lo ≤ b ∧ v.ownBlock ≠ some b)
    (hown : W'.ownsRow lo 32 3 v' (l.length + 1) (hF l ++ hC x)) (hf : Fr (fun q => v.ownBlock = some q) W W') (hb : v'.ownBlock = v.ownBlock ∨ ∃ q, v'.ownBlock = some q ∧ W.heap.size ≤ q) : Hs lo W' v' (l ++ [x]) := by
  have hnew : ∀ y : Hx, Row W y.ao y.val → (∀ b off, y.ao = some ⟨b, off, none⟩ → 0 < y.val.length → lo ≤ b ∧ v.ownBlock ≠ some b) → Row W' y.ao y.val ∧ ∀ b off, y.ao = some ⟨b, off, none⟩ → 0 < y.val.length → lo ≤ b ∧ v'.ownBlock ≠ some b := fun y hy hl =>
    ⟨Sk.row_fr hy hf (fun h0 b off e => (hl b off e h0).2), fun b off e h0 => ⟨(hl b off e h0).1, fun hbb => by
      have hlt := row_lt hy b off e h0
      rcases hb with z | ⟨q, z, hq⟩
      · rw [hbb] at z; exact (hl b off e h0).2 z.symm
      · rw [hbb] at z; cases z; omega⟩⟩
  refine ⟨by rw [hF_app, List.length_append]; simpa [hF] using hown, fun y hy => ?_⟩
  rcases List.mem_append.1 hy with hy | hy
  · obtain ⟨n1, n2⟩ := hnew y (h.ok y hy).1 (h.ok y hy).2.2
    exact ⟨n1, (h.ok y hy).2.1, n2⟩
  · simp only [List.mem_singleton] at hy
    subst hy
    obtain ⟨n1, n2⟩ := hnew y hx hlo
    exact ⟨n1, hxc, n2⟩
theorem infoH : (Tryz.prog.info? 32).map (fun i => (i.zero, i.size, i.bytes)) = some (some (.agg #[.int .i64 0, .int .i64 0, .slice none 0 0]), 3, 40) := by kernel_rfl
theorem srcH (W : World) (x : Hx) : Src Tryz.prog 3 25 (.slice (some ⟨W.heap.size, 0, none⟩) 1 1) 1 (hC x) (W.alloc (.cells #[.int .i64 (x.k : Int), .int .i64 (x.bal : Int), .slice x.ao x.val.length x.cap] 32)) := by
  refine Src.ofSlice _ Tryz.underlying25 _ 1 1 _ (by simp [hC]) (fun j u hj => ?_) (fun u hu => ?_)
  · simp only [hC] at hj
    rcases j with _ | _ | _ | j
    · simp at hj; subst hj; exact Cw.cell_new_at W _ _ 0 _ rfl
    · simp at hj; subst hj; exact Cw.cell_new_at W _ _ 1 _ rfl
    · simp at hj; subst hj; exact Cw.cell_new_at W _ _ 2 _ rfl
    · simp at hj
  · simp only [hC, List.mem_cons, List.not_mem_nil, or_false] at hu
    rcases hu with rfl | rfl | rfl <;> rfl
section
variable {w1 : World} {G : Nat → Prop} {w : World} {S : Nat} {t : Tt.T} {N : Nat}
set_option maxRecDepth 100000 in
set_option maxHeartbeats 4000000 in
theorem has_any (hl : Sn w1 G w S t) (hi : TI N t) :
    Calls Tryz.prog 5 #[.pointer (some ⟨S, 0, none⟩)] w fun e w' => ∃ a c l, e = .returned (.slice a l.length c) ∧ Hs w.heap.size w' (.slice a l.length c) l ∧ l.map hV = (mm t).sl ∧ Below w.heap.size w w' := by
  have HL := mkH hl
  have HI := mkH hi
  have htop : tops (mm t).sl ≤ 61 := tops_le (fun p hp => by have := hi.ok.at' p hp; omega)
  have HO := mkH hi.ok
  clear hl hi
  obtain ⟨sl, hsl⟩ : ∃ sl, (mm t).sl = sl := ⟨_, rfl⟩
  have HSL := mkH hsl
  rw [hsl] at htop
  clear hsl
  obtain ⟨TP, hTP⟩ : ∃ TP, tops sl = TP := ⟨_, rfl⟩
  have HTP := mkH hTP
  rw [hTP] at htop
  clear hTP
  go_enter Tryz.func5, Tryz.ntmps5
  go_wp2_with fail
  go_loopw [3, 4] (fun ov kv wr => ∃ (j : Nat) (a : Option Addr) (c : Nat) (l : List Hx), j ≤ TP ∧ kv = .int .i64 (j : Int) ∧ ov = .slice a l.length c ∧ l.length ≤ j ∧ Hid (Hs w.heap.size wr (.slice a l.length c) l) ∧ Hid (l.map hV = sl.filter (fun p => decide (p.1 < j))) ∧ Hid (Below w.heap.size w wr))
    (fun _ kv _ => TP - (intOf kv).toNat)
  case atStart => exact ⟨0, none, 0, [], Nat.zero_le _, rfl, rfl, Nat.le_refl _, Hs.nil _ _, by simp [Hid], Below.refl _ _⟩
  case round =>
    obtain ⟨j, a, c, l, hj, rfl, rfl, hlj, HH, HM, HB⟩ := hrel
    have hsn := HL.out.below HB.out
    have hsl := slots_sn hsn HI.out
    rw [HSL.out, HTP.out] at hsl
    have HSN := mkH hsn
    clear hsn
    obtain ⟨ln, hln⟩ : ∃ ln, l.length = ln := ⟨_, rfl⟩
    have HLN := mkH hln
    rw [hln] at hlj HH ⊢
    clear hln
    go_wp2_with fail
    refine hsl.mono ?_
    rintro e w2 ⟨rfl, hb2⟩
    have HS2 := mkH (HSN.out.below hb2)
    have HH2 := mkH (HH.out.below hb2)
    have HB2 : Hid (Below w.heap.size w w2) := HB.out.trans (hb2.mono HB.out.size)
    clear hsl hb2 HH HSN
    rcases Nat.lt_or_ge j TP with hjl | hjl
    · have hg := get_sn HS2.out HI.out j (by omega)
      rw [HSL.out] at hg
      have hfl := filter_lt_succ (l := sl) (by rw [← HSL.out]; exact HO.out.srt) j
      have HFL := mkH hfl
      clear hfl
      have h5 : j < 5000 := by omega
      go_wp2_with fail
      refine hg.mono ?_
      rintro e w3 ⟨hgt, hb3⟩
      have HH3 := mkH (HH2.out.below hb3)
      have HB3 : Hid (Below w.heap.size w w3) := HB2.out.trans (hb3.mono HB2.out.size)
      cases hat : atS sl j with
      | none =>
        rw [hat] at hgt HFL
        simp only [Gt] at hgt
        subst hgt
        simp only [List.append_nil] at HFL
        clear hg hb3 hat
        go_wp2
        go_roundw
        case rel => exact ⟨j + 1, a, c, l, by omega, by go_num, by rw [HLN.out], by rw [HLN.out]; omega, by rw [HLN.out]; exact HH3, mkH (HM.out.trans HFL.out.symm), HB3⟩
        case measure => simp [intOf]; omega
      | some u =>
        rw [hat] at hgt HFL
        obtain ⟨b, cap, rfl, hrow, hlo, hcl, hcm⟩ := hgt
        obtain ⟨bl, vl⟩ := u
        simp only at hrow hcl HFL
        have HROW := mkH hrow
        have hs23 := HB2.out.size
        have hs3 := hb3.size
        clear hg hb3 hat hrow
        have HSRC := mkH (srcH w3 ⟨j, bl, some ⟨b, 0, none⟩, cap, vl⟩)
        have HOWN := mkH ((HH3.out.own).alloc (.cells #[.int .i64 (j : Int), .int .i64 (bl : Int), .slice (some ⟨b, 0, none⟩) vl.length cap] 32))
        simp only [HLN.out] at HOWN
        go_wp2_with (at_builtin; refine (wpList_append_own_src_at _ rfl (.tmp 26) (.tmp 31) 25 25 rfl w.heap.size 32 (.agg #[.int .i64 0, .int .i64 0, .slice none 0 0]) 3 40 Tryz.underlying25 infoH rfl (by decide) _ ln _ rfl HOWN.out _ 1 _ rfl HSRC.out ?h63 ?hby ?hbs ?_))
        case h63 => unfold maxLen; omega
        case hby => omega
        case hbs => simp; omega
        intro v7 w7 hown7 hgrow7 hblk7
        obtain ⟨a7, c7, rfl⟩ := own_form hown7
        have hfr : Fr (fun q => (Value.slice a ln c).ownBlock = some q) w3 w7 := ((Fr.refl _ _).alloc _).trans (fr_by hgrow7) (fun i hi => .inl hi)
        have hb7 : (Value.slice a7 (ln + 1) c7).ownBlock = (Value.slice a ln c).ownBlock ∨ ∃ q, (Value.slice a7 (ln + 1) c7).ownBlock = some q ∧ w3.heap.size ≤ q := by
          rcases hblk7 with y | y
          · exact .inl y
          · exact .inr ⟨_, y, by simp⟩
        have hlt2 : ∀ q, (Value.slice a ln c).ownBlock = some q → q < w2.heap.size := fun q hq => (HH2.out.own.lt q hq).2
        have hh7 : Hs w.heap.size w7 (.slice a7 (ln + 1) c7) (l ++ [⟨j, bl, some ⟨b, 0, none⟩, cap, vl⟩]) := Hs.snoc HH3.out HROW.out ⟨hcl, hcm⟩ (fun b' off e h0 => by
          simp only [Option.some.injEq, Addr.mk.injEq, and_true] at e
          obtain ⟨rfl, -⟩ := e
          exact ⟨by omega, fun y => by have := hlt2 _ y; omega⟩) (by rw [HLN.out]; exact hown7) hfr hb7
        have hb07 : Below w.heap.size w w7 := HB3.out.trans (hfr.below (fun q hq => (HH2.out.own.lt q hq).1) HB3.out.size)
        have HH7 := mkH hh7
        have HB7 := mkH hb07
        clear hown7 hgrow7 hblk7 hfr hb7 hh7 hb07 hlt2
        go_wp2
        go_roundw
        case rel => exact ⟨j + 1, a7, c7, l ++ [⟨j, bl, some ⟨b, 0, none⟩, cap, vl⟩], by omega, by go_num, by simp [HLN.out], by simp [HLN.out]; omega, by simpa [HLN.out] using HH7, mkH (by rw [List.map_append, HM.out, HFL.out]; rfl), HB7⟩
        case measure => simp [intOf]; omega
    · have hjn : j = TP := by omega
      subst hjn
      have hfa : sl.filter (fun p => decide (p.1 < j)) = sl := filter_all (fun p hp => by rw [← HTP.out]; exact lt_tops hp)
      have HFA := mkH hfa
      clear hfa
      go_wp2
      go_ret
      refine ⟨a, c, l, by rw [HLN.out]; rfl, by rw [HLN.out]; exact HH2.out, ?_, HB2.out⟩
      rw [HM.out, HFA.out, HSL.out]
end
end Go.Proofs.YthmedpabgblddabGreatDoor.To

namespace Go.Proofs.YthmedpabgblddabGreatDoor.Tx
open Go.RowKit Kt Dk Dp Da Dc De Tp Tm Pl Cs Cf Cn Cv Sq Sr Sa Sb Sc Se St Sv Rd Wr Ta Tb0 Tc Td Te Tf Tg Tt Th Ti Tj Tk Tl Tn To Go.Maps
set_option linter.unusedVariables false
set_option maxRecDepth 20000

/-- A call, as it came in. -/
structure Ac where
  kind : Int
  n : Int
  slot : Int
  flip : Int
  ao : Option Addr
  cap : Nat
  b : List UInt8
def aC (x : Ac) : List Value := [.int .i64 x.kind, .int .i64 x.n, .int .i64 x.slot, .int .i64 x.flip, .slice x.ao x.b.length x.cap]
theorem aC_len (x : Ac) : (aC x).length = 5 := rfl
def AcOk (w : World) (x : Ac) : Prop := Row w x.ao x.b ∧ x.b.length ≤ x.cap ∧ x.cap ≤ 9223372036854775807 ∧ x.flip ≤ 9223372036854775807
/-- A slice of calls, as it is read. -/
def RowA (w : World) (ao : Option Addr) (l : List Ac) : Prop :=
  (∀ x ∈ l, AcOk w x) ∧ (0 < l.length → ∃ b off, ao = some ⟨b, off, none⟩ ∧ ∀ i x, l[i]? = some x → ∀ j v, (aC x)[j]? = some v → w.cell? ⟨b, off + i * 5 + j, none⟩ = some v)
theorem AcOk.below {w w' : World} {x : Ac} (h : AcOk w x) (hb : Below w.heap.size w w') : AcOk w' x := ⟨h.1.below hb, h.2⟩
theorem RowA.below {w w' : World} {ao : Option Addr} {l : List Ac} (h : RowA w ao l) (hb : Below w.heap.size w w') : RowA w' ao l := by
  refine ⟨fun x hx => (h.1 x hx).below hb, fun hl => ?_⟩
  obtain ⟨b, off, e, hc⟩ := h.2 hl
  refine ⟨b, off, e, fun i x hx j v hv => ?_⟩
  have h1 := hc i x hx j v hv
  rw [hb.cell (p := ⟨b, off + i * 5 + j, none⟩) (World.block_lt_of_cell? w _ h1)]
  exact h1
theorem Row_take {w : World} {ao : Option Addr} {bs : List UInt8} (h : Row w ao bs) (k : Nat) : Row w ao (bs.take k) := by
  intro hl
  rw [List.length_take] at hl
  obtain ⟨b, off, e, hc⟩ := h (by omega)
  refine ⟨b, off, e, fun i hi => ?_⟩
  rw [List.length_take] at hi
  rw [hc i (by omega)]
  simp [show i < k by omega]
/-- 'x.b[:min(len(x.b), n)]'. -/
theorem min_len (bs : List UInt8) (n : Nat) : ∃ m : Nat, (bs.take n).length = m ∧ min (bs.length : Int) (n : Int) = (m : Int) ∧ m ≤ n ∧ m ≤ bs.length := by
  by_cases h : n < bs.length
  · exact ⟨n, by rw [List.length_take]; omega, by omega, by omega, by omega⟩
  · exact ⟨bs.length, by rw [List.length_take]; omega, by omega, by omega, by omega⟩
/-- The call at a place of such a slice. -/
theorem RowA.at {w : World} {ao : Option Addr} {l : List Ac} (h : RowA w ao l) (i : Nat) (hi : i < l.length) : ∃ b off x, ao = some ⟨b, off, none⟩ ∧ AcOk w x ∧
    w.cell? ⟨b, off + i * 5, none⟩ = some (.int .i64 x.kind) ∧ w.cell? ⟨b, off + i * 5 + 1, none⟩ = some (.int .i64 x.n) ∧ w.cell? ⟨b, off + i * 5 + 2, none⟩ = some (.int .i64 x.slot) ∧ w.cell? ⟨b, off + i * 5 + 3, none⟩ = some (.int .i64 x.flip) ∧ w.cell? ⟨b, off + i * 5 + 4, none⟩ = some (.slice x.ao x.b.length x.cap) := by
  obtain ⟨b, off, e, hc⟩ := h.2 (by omega)
  have hx : l[i]? = some l[i] := List.getElem?_eq_getElem hi
  exact ⟨b, off, l[i], e, h.1 _ (List.getElem_mem hi), hc i _ hx 0 _ rfl, hc i _ hx 1 _ rfl, hc i _ hx 2 _ rfl, hc i _ hx 3 _ rfl, hc i _ hx 4 _ rfl⟩
theorem below_alloc (w : World) (o : Obj) : Below w.heap.size w (w.alloc o) := (Below.refl _ w).alloc (Nat.le_refl _) o
/-- 'per' of the laws: a number of 1 to m. -/
theorem per_is (x m : Int) (hm : 0 < m) (h9 : m ≤ 1000) : ∃ p : Nat, 1 ≤ p ∧ p ≤ m ∧ wrap64 (1 + (wrap64 (x.tmod m + m)).tmod m) = (p : Int) := by
  have h1 := Int.tmod_lt_of_pos x hm
  have h2 : -m < x.tmod m := by
    have := Int.lt_tmod_of_pos x hm
    omega
  have h3 := Int.tmod_lt_of_pos (x.tmod m + m) hm
  have h4 := Int.tmod_nonneg m (show 0 ≤ x.tmod m + m by omega)
  have e1 : wrap64 (x.tmod m + m) = x.tmod m + m := by unfold wrap64; omega
  rw [e1]
  have e2 : wrap64 (1 + (x.tmod m + m).tmod m) = 1 + (x.tmod m + m).tmod m := by unfold wrap64; omega
  rw [e2]
  exact ⟨(1 + (x.tmod m + m).tmod m).toNat, by omega, by omega, by omega⟩
theorem mod_is (x m : Int) (hm : 0 < m) (h9 : m ≤ 1000) : ∃ p : Nat, (p : Int) < m ∧ (wrap64 (x.tmod m + m)).tmod m = (p : Int) := by
  have h1 := Int.tmod_lt_of_pos x hm
  have h2 : -m < x.tmod m := by
    have := Int.lt_tmod_of_pos x hm
    omega
  have h3 := Int.tmod_lt_of_pos (x.tmod m + m) hm
  have h4 := Int.tmod_nonneg m (show 0 ≤ x.tmod m + m by omega)
  have e1 : wrap64 (x.tmod m + m) = x.tmod m + m := by unfold wrap64; omega
  rw [e1]
  exact ⟨((x.tmod m + m).tmod m).toNat, by omega, by omega⟩
/-- No slot from 40 on has ever had anything. -/
def loR : Rc → Prop
  | .ac s _ _ => s < 40
  | _ => True
def loM (m : M) : Prop := ∀ p ∈ m.sl, p.1 < 40
theorem lo_ap {m : M} (h : loM m) {r : Rc} (hr : loR r) : loM (ap m r) := by
  cases r with
  | pm b => exact h
  | ac s b v =>
    intro p hp
    rcases mem_put hp with rfl | hp
    · exact hr
    · exact h p hp
  | bs n => intro p hp; exact h p (List.mem_filter.1 hp).1
theorem lo_rp : ∀ {l : List Rc} {m : M}, loM m → (∀ r ∈ l, loR r) → loM (rp m l)
  | [], m, h, _ => h
  | r :: l, m, h, hr => by
    have := lo_rp (l := l) (m := ap m r) (lo_ap h (hr r (by simp))) (fun x hx => hr x (by simp [hx]))
    exact this
structure TJ (N : Nat) (t : Tt.T) : Prop where
  ti : TI N t
  l0 : loM (s0 t)
  lr : ∀ r ∈ t.rl, loR r
theorem TJ.lo {N : Nat} {t : Tt.T} (h : TJ N t) : loM (mm t) := lo_rp h.l0 h.lr
theorem TJ.more {N K : Nat} {t : Tt.T} (h : TJ N t) (hk : N ≤ K) : TJ K t := ⟨h.ti.more hk, h.l0, h.lr⟩
theorem TJ.tn {per : Nat} (h1 : 1 ≤ per) (h2 : per ≤ 1024) : TJ 0 (Tt.tn per) := ⟨TI.tn h1 h2, (fun p hp => (by cases hp)), (fun r hr => (by cases hr))⟩
theorem TJ.pT {N : Nat} {t : Tt.T} (h : TJ N t) (hN : N ≤ 200) (b : Int) : TJ (N + 1) (Tt.pT t b) := by
  refine ⟨h.ti.pT hN b, ?_, ?_⟩
  · unfold Tt.pT; split; exact h.l0; exact h.l0
  · unfold Tt.pT
    split
    · intro r hr
      rcases List.mem_append.1 hr with x | x
      · exact h.lr r x
      · simp only [List.mem_singleton] at x; subst x; trivial
    · exact h.lr
theorem TJ.aT {N : Nat} {t : Tt.T} (h : TJ N t) (hN : N ≤ 200) {s : Nat} (hs : s < 40) (b : Int) {v : List UInt8} (hv : v.length ≤ 300) : TJ (N + 1) (Tt.aT t s b v) := by
  refine ⟨h.ti.aT hN (by omega) b hv, ?_, ?_⟩
  · unfold Tt.aT; split; exact h.l0; exact h.l0
  · unfold Tt.aT
    split
    · intro r hr
      rcases List.mem_append.1 hr with x | x
      · exact h.lr r x
      · simp only [List.mem_singleton] at x; subst x; exact hs
    · exact h.lr
theorem TJ.fT {N : Nat} {t : Tt.T} (h : TJ N t) (hN : N ≤ 200) {n : Nat} (hn : n ≤ 1099511627776) : TJ (N + 1) (Tt.fT t n) := by
  refine ⟨h.ti.fT hN hn, ?_, ?_⟩
  · unfold Tt.fT; split; exact h.l0; exact h.l0
  · unfold Tt.fT
    split
    · intro r hr
      rcases List.mem_append.1 hr with x | x
      · exact h.lr r x
      · simp only [List.mem_singleton] at x; subst x; trivial
    · exact h.lr
theorem TJ.sy {N : Nat} {t : Tt.T} (h : TJ N t) : TJ N (Tt.sy t) := ⟨h.ti.sy, h.l0, h.lr⟩
theorem TJ.nT {N : Nat} {t : Tt.T} (h : TJ N t) : TJ N (Tt.nT t) := by
  unfold Tt.nT
  split
  · exact h
  · exact ⟨h.ti.sp.more (Nat.zero_le _), h.lo, fun r hr => by cases hr⟩
theorem TJ.cr' {N : Nat} {t : Tt.T} (h : TJ N t) (k f : Int) : TJ (N + 1) (Tt.cr t k f) := ⟨(h.ti.cr k f).more (by omega), h.l0, h.lr⟩
theorem TJ.rs {N : Nat} {t : Tt.T} (h : TJ N t) : TJ N (Tt.rs t) := ⟨h.ti.rs, h.l0, fun r hr => h.lr r (List.mem_of_mem_take hr)⟩

set_option maxHeartbeats 8000000 in
theorem plays_lo (w : World) (hT : Tb w) (per : Int) (ao : Option Addr) (cap : Nat) (l : List Ac) (hr : RowA w ao l) (hl : l.length ≤ cap) (hc : cap ≤ 9223372036854775807) :
    Calls Tryz.prog 4 #[.int .i64 per, .slice ao l.length cap] w fun e w' => ∃ S t, e = .returned (.pointer (some ⟨S, 0, none⟩)) ∧ dn t = false ∧ TJ 50 t ∧ Sn w (fun k => k < w.heap.size) w' S t := by
  obtain ⟨p, hp1, hp9, hp⟩ := per_is per 9 (by omega) (by omega)
  have hn := new_sn w hT p hp1 (by omega)
  obtain ⟨B, hB⟩ : ∃ B, w.heap.size = B := ⟨_, rfl⟩
  rw [hB] at hn
  have HN := mkH hn
  have HT := mkH hT
  have HR := mkH hr
  have HB := mkH hB
  clear hn hT hr hB
  go_enter Tryz.func4, Tryz.ntmps4
  go_wp2_with fail
  rw [hp]
  refine HN.out.mono ?_
  rintro e w1 ⟨S, rfl, h1⟩
  have H1 := mkH h1
  have HI0 := mkH (TJ.tn (per := p) hp1 (by omega))
  clear h1 HN hp hp1 hp9
  go_wp2_with fail
  go_loopw [7] (fun i W => ∃ j : Nat, j ≤ l.length ∧ j ≤ 50 ∧ i = .int .i64 j ∧ ∃ t, Hid (Sn w (fun k => k < B) W S t ∧ TJ j t)) (fun i _ => 50 - (intOf i).toNat)
  case atStart => exact ⟨0, by omega, by omega, rfl, _, ⟨H1.out, HI0.out⟩⟩
  case round =>
    clear H1 HI0
    obtain ⟨j, hj, hj60, rfl, t, HD⟩ := hrel
    have hfin : Hid (∀ W t', Sn w (fun k => k < B) W S t' ∧ TJ j t' → TJ 50 t' ∧ Sn w (fun k => k < w.heap.size) W S t') := fun W t' x => ⟨x.2.more hj60, by rw [HB.out]; exact x.1⟩
    by_cases hj1 : j = l.length ∨ j = 50
    · have hj0 : (j = l.length ∧ decide ((j : Int) < (l.length : Int)) = false) ∨ (j = 50 ∧ j < l.length) := by
        rcases hj1 with h | h
        · exact .inl ⟨h, by simp; omega⟩
        · by_cases h2 : j = l.length
          · exact .inl ⟨h2, by simp; omega⟩
          · exact .inr ⟨h, by omega⟩
      clear hj1
      rcases hj0 with ⟨h1, h2⟩ | ⟨h1, h2⟩
      · clear h2
        subst h1
        go_wp2_with fail
        refine (down_sn HD.out.1 HD.out.2.ti).mono ?_
        rintro e w2 ⟨rfl, hw⟩
        have hw2 := hw.symm
        subst hw2
        clear hw
        cases hd : dn t
        · go_wp2
          go_ret
          exact ⟨S, t, rfl, hd, hfin.out _ _ HD.out⟩
        · go_wp2_with fail
          refine (restart_sn HD.out.1 HD.out.2.ti (by omega)).mono ?_
          rintro e w2 ⟨rfl, h2⟩
          have H2 := mkH (And.intro h2 HD.out.2.rs)
          clear h2 hd
          go_wp2
          go_ret
          exact ⟨S, _, rfl, dn_rs t, hfin.out _ _ H2.out⟩
      · subst h1
        go_wp2_with fail
        refine (down_sn HD.out.1 HD.out.2.ti).mono ?_
        rintro e w2 ⟨rfl, hw⟩
        have hw2 := hw.symm
        subst hw2
        clear hw
        cases hd : dn t
        · go_wp2
          go_ret
          exact ⟨S, t, rfl, hd, hfin.out _ _ HD.out⟩
        · go_wp2_with fail
          refine (restart_sn HD.out.1 HD.out.2.ti (by omega)).mono ?_
          rintro e w2 ⟨rfl, h2⟩
          have H2 := mkH (And.intro h2 HD.out.2.rs)
          clear h2 hd
          go_wp2
          go_ret
          exact ⟨S, _, rfl, dn_rs t, hfin.out _ _ H2.out⟩
    · have hjl : j < l.length := by omega
      have hj6 : j < 50 := by omega
      have hb := HD.out.1.toBelow (fun k hk => hk)
      rw [← HB.out] at hb
      obtain ⟨b, off, ⟨kd, n, sl, fl, xa, xc, xb⟩, rfl, ⟨hrow, hxl, hxc, hxf⟩, c0, c1, c2, c3, c4⟩ := (HR.out.below hb).at j hjl
      simp only at hrow hxl hxc hxf c0 c1 c2 c3 c4
      obtain ⟨m, hm1, hm2, hm3, hm4⟩ := min_len xb 300
      have HX := mkH (Row_take hrow 300)
      have HM := mkH hm1
      have ha : ∀ o : Obj, Hid (Sn w (fun k => k < B) (wr.alloc o) S t) := fun o => HD.out.1.below (below_alloc wr o)
      have hxx : ∀ o : Obj, Hid (Row (wr.alloc o) xa (xb.take 300)) := fun o => HX.out.below (below_alloc wr o)
      have HA := mkH ha
      have HXX := mkH hxx
      have HI := mkH HD.out.2
      have hm2 : min (xb.length : Int) 300 = (m : Int) := hm2
      obtain ⟨s40, hs40, e40⟩ := mod_is sl 40 (by omega) (by omega)
      obtain ⟨s10, hs10, e10⟩ := mod_is sl 10 (by omega) (by omega)
      have hend : ∀ W t', Sn w (fun k => k < B) W S t' → TJ (j + 1) t' → ∃ i : Nat, i ≤ l.length ∧ i ≤ 50 ∧ Value.int .i64 ((j : Int) + 1) = .int .i64 (i : Int) ∧ ∃ t, Hid (Sn w (fun k => k < B) W S t ∧ TJ i t) := fun W t' hW hi => ⟨j + 1, by omega, by omega, by go_num, t', ⟨hW, hi⟩⟩
      have HEND := mkH hend
      clear hj1 hb hrow hm1 ha hxx hend hfin HD
      by_cases h0 : kd = 0
      · subst h0
        go_wp2_with fail
        refine (promise_sn (HA.out _).out HI.out.ti (by omega) n).mono ?_
        rintro e w2 ⟨rfl, h2⟩
        have H2 := mkH h2
        clear h2 c0 c1 c2 c3 c4
        go_wp2_with fail
        exact ⟨HEND.out _ _ H2.out (HI.out.pT (by omega) n), by simp [intOf]; omega⟩
      · have t0 : (kd == 0) = false := by simp [h0]
        by_cases h1 : kd = 1
        · subst h1
          go_wp2_with fail
          have ht := accept_sn (HA.out _).out HI.out.ti (by omega) s40 (by omega) n xa xc (xb.take 300) (HXX.out (.cells #[.int .i64 1, .int .i64 n, .int .i64 sl, .int .i64 fl, .slice xa xb.length xc] 41)).out (by rw [HM.out]; omega)
          rw [HM.out] at ht
          refine ht.mono ?_
          rintro e w2 ⟨rfl, h2⟩
          have H2 := mkH h2
          clear h2 ht c0 c1 c2 c3 c4
          go_wp2_with fail
          exact ⟨HEND.out _ _ H2.out (HI.out.aT (by omega) (s := s40) (by omega) n (v := xb.take 300) (by rw [HM.out]; omega)), by simp [intOf]; omega⟩
        · have t1 : (kd == 1) = false := by simp [h1]
          by_cases h2 : kd = 2
          · subst h2
            go_wp2_with fail
            refine (sync_sn (HA.out _).out HI.out.ti).mono ?_
            rintro e w2 ⟨rfl, h2⟩
            have H2 := mkH h2
            clear h2 c0 c1 c2 c3 c4
            go_wp2_with fail
            exact ⟨HEND.out _ _ H2.out (HI.out.sy.more (by omega)), by simp [intOf]; omega⟩
          · have t2 : (kd == 2) = false := by simp [h2]
            by_cases h3 : kd = 3
            · subst h3
              go_wp2_with fail
              refine (snapshot_sn (HA.out _).out HI.out.ti).mono ?_
              rintro e w2 ⟨rfl, h2⟩
              have H2 := mkH h2
              clear h2 c0 c1 c2 c3 c4
              go_wp2_with fail
              exact ⟨HEND.out _ _ H2.out (HI.out.nT.more (by omega)), by simp [intOf]; omega⟩
            · have t3 : (kd == 3) = false := by simp [h3]
              by_cases h4 : kd = 4
              · subst h4
                go_wp2_with fail
                refine (crash_sn (HA.out _).out HI.out.ti n fl hxf).mono ?_
                rintro e w2 ⟨rfl, h2⟩
                have H2 := mkH h2
                clear h2 c0 c1 c2 c3 c4
                go_wp2_with fail
                exact ⟨HEND.out _ _ H2.out (TJ.cr' HI.out n fl), by simp [intOf]; omega⟩
              · have t4 : (kd == 4) = false := by simp [h4]
                by_cases h5 : kd = 5
                · subst h5
                  go_wp2_with fail
                  refine (restart_sn (HA.out _).out HI.out.ti (by omega)).mono ?_
                  rintro e w2 ⟨rfl, h2⟩
                  have H2 := mkH h2
                  clear h2 c0 c1 c2 c3 c4
                  go_wp2_with fail
                  exact ⟨HEND.out _ _ H2.out (HI.out.rs.more (by omega)), by simp [intOf]; omega⟩
                · have t5 : (kd == 5) = false := by simp [h5]
                  by_cases h7 : kd = 7
                  · subst h7
                    go_wp2_with fail
                    refine (forget_sn (HA.out _).out HI.out.ti (by omega) s10 (by omega)).mono ?_
                    rintro e w2 ⟨rfl, h2⟩
                    have H2 := mkH h2
                    clear h2 c0 c1 c2 c3 c4
                    go_wp2_with fail
                    exact ⟨HEND.out _ _ H2.out (HI.out.fT (by omega) (n := s10) (by omega)), by simp [intOf]; omega⟩
                  · have t7 : (kd == 7) = false := by simp [h7]
                    clear h0 h1 h2 h3 h4 h5 h7
                    go_wp2_with fail
                    exact ⟨HEND.out _ _ (HA.out _).out (HI.out.more (by omega)), by simp [intOf]; omega⟩
theorem plays_any (w : World) (hT : Tb w) (per : Int) (ao : Option Addr) (cap : Nat) (l : List Ac) (hr : RowA w ao l) (hl : l.length ≤ cap) (hc : cap ≤ 9223372036854775807) :
    Calls Tryz.prog 4 #[.int .i64 per, .slice ao l.length cap] w fun e w' => ∃ S t, e = .returned (.pointer (some ⟨S, 0, none⟩)) ∧ dn t = false ∧ TI 50 t ∧ Sn w (fun k => k < w.heap.size) w' S t := by
  refine (plays_lo w hT per ao cap l hr hl hc).mono ?_
  rintro e w' ⟨S, t, h1, h2, h3, h4⟩
  exact ⟨S, t, h1, h2, h3.ti, h4⟩
end Go.Proofs.YthmedpabgblddabGreatDoor.Tx

namespace Go.Proofs.YthmedpabgblddabGreatDoor.Tw
open Go.RowKit Kt Dk Dp Da Dc De Tp Tm Pl Cs Cf Cn Cv Ca Sq Sr Sa Sb Sc Se St Sv Rd Wr Ta Tb0 Tc Td Te Tf Tg Tt Th Ti Tj Tk Tl Tn Go.Maps
set_option linter.unusedVariables false
set_option maxRecDepth 20000

theorem off_mono {l : List (List UInt8)} : ∀ {j k : Nat}, j < k → k ≤ l.length → off l j < off l k
  | j, 0, h, _ => by omega
  | j, k + 1, h, hk => by
    rw [off_succ (by omega)]
    by_cases e : j = k
    · subst e; omega
    · have := off_mono (l := l) (j := j) (k := k) (by omega) (by omega); omega
/-- A crash that leaves nothing of what is not kept. -/
theorem lj_zero {s : Sg} (h : Fits s) (f : Int) : lj s (0, f) = kn s ∧ tl s (0, f) = [] := by
  obtain ⟨h1, h2, h3, h4⟩ := left_is h (0, f)
  have e : (dst (some (0, f)) s).kept ++ (dst (some (0, f)) s).rest = fcat ((bod s).take (kn s)) := by
    simp only [dst, kb]
    rw [Sp.turn_none (by simp)]
    simp
  rw [e] at h3
  have hl := congrArg List.length h3
  rw [List.length_append] at hl
  have hle : lj s (0, f) = kn s := by
    rcases Nat.lt_or_ge (kn s) (lj s (0, f)) with x | x
    · have := off_mono (l := bod s) x (by rw [bod_len]; exact h2)
      unfold off at this
      omega
    · omega
  rw [hle] at hl
  exact ⟨hle, List.eq_nil_of_length_eq_zero (by omega)⟩

def r1 : Rc := .pm 3
def r2 : Rc := .ac 0 3 [120]
def r3 : Rc := .ac 1 3 [121]
def q0 : Tt.T := tn 3
def q1 : Tt.T := ⟨⟨3, [⟨0, [eR r1], none⟩], 0, none⟩, none, [r1]⟩
def q2 : Tt.T := ⟨⟨3, [⟨0, [eR r1, eR r2], none⟩], 0, none⟩, none, [r1, r2]⟩
def q3 : Tt.T := ⟨⟨3, [⟨0, [eR r1, eR r2], some 2⟩], 2, none⟩, none, [r1, r2]⟩
def q4 : Tt.T := ⟨⟨3, [⟨0, [eR r1, eR r2, eR r3], some 2⟩], 2, none⟩, none, [r1, r2, r3]⟩
def q5 : Tt.T := ⟨⟨3, [⟨0, [eR r1, eR r2, eR r3], some 2⟩], 2, some (0, 0)⟩, none, [r1, r2, r3]⟩
theorem i0 : TI 0 q0 := TI.tn (by omega) (by omega)
theorem z1 : pE q0 3 = 0 ∧ pT q0 3 = q1 := ⟨by decide, by rfl⟩
theorem i1 : TI 1 q1 := by rw [← z1.2]; exact i0.pT (by omega) 3
theorem z2 : aE q1 0 3 = 0 ∧ aT q1 0 3 [120] = q2 := ⟨by decide, by rfl⟩
theorem i2 : TI 2 q2 := by rw [← z2.2]; exact i1.aT (by omega) (by omega) 3 (by simp)
theorem z3 : yE q2 = 0 ∧ sy q2 = q3 := ⟨by decide, by rfl⟩
theorem i3 : TI 2 q3 := by rw [← z3.2]; exact i2.sy
theorem z4 : aE q3 1 3 = 0 ∧ aT q3 1 3 [121] = q4 := ⟨by decide, by rfl⟩
theorem i4 : TI 3 q4 := by rw [← z4.2]; exact i3.aT (by omega) (by omega) 3 (by simp)
theorem z5 : cE q4 0 = 0 ∧ cr q4 0 0 = q5 := ⟨by decide, by rfl⟩
theorem i5 : TI 3 q5 := by rw [← z5.2]; exact i4.cr 0 0
theorem z6 : rE q5 = 0 ∧ mm (Tt.rs q5) = ⟨3, 0, [(0, ⟨3, [120]⟩)]⟩ := by
  refine ⟨by decide, ?_⟩
  have f0 : Fits ⟨0, [eR r1, eR r2, eR r3], some 2⟩ := i5.inv.fits _ (by simp [q5])
  obtain ⟨x0, y0⟩ := lj_zero f0 0
  have k0 : kn ⟨0, [eR r1, eR r2, eR r3], some 2⟩ = 3 := rfl
  rw [k0] at x0
  have e : Sq.rs 3 (0, 0) q5.h.segs = [lft ⟨0, [eR r1, eR r2, eR r3], some 2⟩ (0, 0)] := by
    simp only [q5]
    rw [Sq.rs, if_neg (by rw [x0]; decide), if_neg (by rw [x0]; intro h; cases h.2)]
  have er : (rst q5.h).segs = Sq.rs 3 (0, 0) q5.h.segs := rfl
  have el : (all (rst q5.h).segs).length = 2 := by
    rw [er, e]
    simp [all, lft, x0]
  have : (Tt.rs q5).rl = [r1, r2] := by
    show [r1, r2, r3].take (all (rst q5.h).segs).length = _
    rw [el]; rfl
  unfold mm
  rw [this]
  rfl
theorem row_one (W : World) (c : UInt8) (k : Nat × Nat) : Row (W.alloc (.cells #[.int .u8 (c.toNat : Int)] 5 k)) (some ⟨W.heap.size, 0, none⟩) [c] := fun _ => ⟨_, 0, rfl, fun i hi => by
  have h0 : i = 0 := by simpa using hi
  subst h0
  rw [cell_of_row _ _ _ _ _ _ (heap_alloc_new _ _)]; rfl⟩

set_option maxHeartbeats 4000000 in
theorem works_any (w : World) (hT : Tb w) : Calls Tryz.prog 13 #[] w fun e w' => e = .returned (.bool true) ∧ Below w.heap.size w w' := by
  have kd := fun (w : World) (C : Array Value) (n c : Nat) => Lib.run_convert_bytes_const (P := Tryz.prog) w 30 5 C n c Tryz.underlying30 Tryz.underlying5
  have hn := new_sn w hT 3 (by omega) (by omega)
  have HN := mkH hn
  clear hn hT
  go_enter Tryz.func13, Tryz.ntmps13
  go_wp2_with fail
  refine HN.out.mono ?_
  rintro e w1 ⟨S, rfl, h1⟩
  have h1 : Sn w (fun k => k < w.heap.size) w1 S q0 := h1
  have H1 := mkH h1
  clear h1 HN
  go_wp2_with fail
  have hp := promise_sn H1.out i0 (by omega) 3
  rw [z1.1, z1.2] at hp
  refine hp.mono ?_
  rintro e w2 ⟨rfl, h2⟩
  have H2 := mkH h2
  clear h2 H1 hp
  go_wp2_with fail
  have ha := accept_sn (H2.out.below ((Below.refl _ w2).alloc (Nat.le_refl _) (.cells #[.int .u8 120] 5 (1, 2)))) i1 (by omega) 0 (by omega) 3 (some ⟨w2.heap.size, 0, none⟩) 1 [120] (row_one w2 120 (1, 2)) (by simp)
  rw [z2.1, z2.2] at ha
  refine ha.mono ?_
  rintro e w3 ⟨rfl, h3⟩
  have H3 := mkH h3
  clear h3 H2 ha
  go_wp2_with fail
  have hs := sync_sn H3.out i2
  rw [z3.1, z3.2] at hs
  refine hs.mono ?_
  rintro e w4 ⟨rfl, h4⟩
  have H4 := mkH h4
  clear h4 H3 hs
  go_wp2_with fail
  have ha := accept_sn (H4.out.below ((Below.refl _ w4).alloc (Nat.le_refl _) (.cells #[.int .u8 121] 5 (1, 2)))) i3 (by omega) 1 (by omega) 3 (some ⟨w4.heap.size, 0, none⟩) 1 [121] (row_one w4 121 (1, 2)) (by simp)
  rw [z4.1, z4.2] at ha
  refine ha.mono ?_
  rintro e w5 ⟨rfl, h5⟩
  have H5 := mkH h5
  clear h5 H4 ha
  go_wp2_with fail
  have hc := crash_sn H5.out i4 0 0 (by omega)
  rw [z5.1, z5.2] at hc
  refine hc.mono ?_
  rintro e w6 ⟨rfl, h6⟩
  have H6 := mkH h6
  clear h6 H5 hc
  go_wp2_with fail
  have hr := restart_sn H6.out i5 (by omega)
  rw [z6.1] at hr
  refine hr.mono ?_
  rintro e w7 ⟨rfl, h7⟩
  have H7 := mkH h7
  have i6 := i5.rs
  have HI6 := mkH i6
  clear h7 H6 hr i6
  go_wp2_with fail
  have hg0 := get_sn H7.out HI6.out 0 (by omega)
  rw [z6.2] at hg0
  refine hg0.mono ?_
  rintro e w8 ⟨hgt, hb8⟩
  have hgt : Gt w7 w8 (some ⟨3, [120]⟩) e := hgt
  obtain ⟨b, cap, rfl, hrow, hlo, hcl, hcm⟩ := hgt
  have H8 := mkH (H7.out.below hb8)
  have HR8 := mkH hrow
  clear hg0 H7 hb8 hrow
  go_wp2_with fail
  have hg1 := get_sn H8.out HI6.out 1 (by omega)
  rw [z6.2] at hg1
  refine hg1.mono ?_
  rintro e w9 ⟨hgt, hb9⟩
  have hgt : Gt w8 w9 none e := hgt
  simp only [Gt] at hgt
  subst hgt
  have H9 := mkH (H8.out.below hb9)
  have hstr : (convert 30 9 (.slice (some ⟨b, 0, none⟩) 1 cap)).run Tryz.prog w9 = .ok (.string ⟨#[120]⟩) w9 := str_any (HR8.out.below hb9) cap
  clear hg1 H8 hb9 HR8
  go_wp2_with fail
  have hpm := promised_sn H9.out
  rw [z6.2] at hpm
  refine hpm.mono ?_
  rintro e w10 ⟨rfl, hw⟩
  have hw2 := hw.symm
  subst hw2
  clear hw hpm
  go_wp2_with fail
  have hsl := slots_sn H9.out HI6.out
  rw [z6.2] at hsl
  refine hsl.mono ?_
  rintro e w11 ⟨rfl, hb11⟩
  have H11 := mkH (H9.out.below hb11)
  clear hsl hb11 H9
  go_wp2
  go_ret
  exact ⟨rfl, H11.out.toBelow (fun k hk => hk)⟩
end Go.Proofs.YthmedpabgblddabGreatDoor.Tw

namespace Go.Proofs.YthmedpabgblddabGreatDoor.Ty
open Go.RowKit Kt Dk Dp Da Dc De Tp Tm Pl Cs Cf Cn Cv Sq Sr Sa Sb Sc Se St Sv Rd Wr Ta Tb0 Tc Td Te Tf Tg Tt Th Ti Tj Tk Tl Tn To Tx Tw Go.Maps
set_option linter.unusedVariables false
set_option maxRecDepth 20000

/-- How many of the records are kept. -/
def safeN (t : Tt.T) : Nat := t.h.safe - bas t.h.segs
theorem ti_len {N : Nat} {t : Tt.T} (h : TI N t) : (all t.h.segs).length = t.rl.length := by rw [h.rcd]; simp
theorem safe_sy {N : Nat} {t : Tt.T} (h : TI N t) (hd : dn t = false) : safeN (sy t) = t.rl.length := by
  have hdd : t.h.dn = none := by simpa [dn] using hd
  have e : syH t.h = syn t.h := by simp [syH, hdd]
  simp only [safeN, sy, e, syn]
  rw [bas_map _ _ syg_ok]
  have := top_all0 h.inv.ch
  have := ti_len h
  omega
theorem bas_app (h : H) (r : List UInt8) : bas (app h r).segs = bas h.segs ∧ (app h r).safe = h.safe := by
  by_cases h0 : h.segs = []
  · rw [app_nil r h0, h0]; exact ⟨rfl, rfl⟩
  · obtain ⟨i, z, hz⟩ := snoc_of h0
    rw [app_snoc r hz]
    split
    · split
      · exact ⟨rfl, rfl⟩
      · rw [hz]
        cases i with
        | nil => exact ⟨rfl, rfl⟩
        | cons y i => exact ⟨rfl, rfl⟩
    · rw [hz]
      cases i with
      | nil => exact ⟨rfl, rfl⟩
      | cons y i => exact ⟨rfl, rfl⟩
theorem safe_wr (t : Tt.T) (r : Rc) : safeN (wr t r) = safeN t := by simp only [safeN, wr, (bas_app _ _).1, (bas_app _ _).2]
theorem safe_cr (t : Tt.T) (k f : Int) : safeN (cr t k f) = safeN t := by simp only [safeN, cr, crH_segs]
theorem rs_take {N : Nat} {t : Tt.T} (h : TI N t) : ∃ j, safeN t ≤ j ∧ j ≤ t.rl.length ∧ (Tt.rs t).rl = t.rl.take j ∧ s0 (Tt.rs t) = s0 t := by
  have h1 := top_all0 h.inv.ch
  have h2 := h.inv.hi
  have h3 := rs_keeps h (by omega)
  have h4 := ti_len h
  have hp := (rst_pre h.inv).length_le
  refine ⟨(all (rst t.h).segs).length, ?_, by omega, rfl, rfl⟩
  have : (Tt.rs t).rl.length = min (all (rst t.h).segs).length t.rl.length := by simp [Tt.rs]
  unfold safeN
  omega
theorem dn_cr {t : Tt.T} (hd : dn t = false) {k : Int} (hk : 0 ≤ k) (f : Int) : dn (cr t k f) = true := by
  have h1 : t.h.dn = none := by simpa [dn] using hd
  have h2 : crH t.h k f = { t.h with dn := some (k, f) } := by
    unfold crH crs
    rw [h1, if_neg (by simp), if_neg (by omega)]
  simp only [dn, cr, h2]
  rfl
/-- Behind a sync, and any crash, all is there. -/
theorem synced {N : Nat} {t : Tt.T} (h : TI N t) (hd : dn t = false) (k f : Int) : mm (Tt.rs (cr (sy t) k f)) = mm t := by
  obtain ⟨j, h1, h2, h3, h4⟩ := rs_take (h.sy.cr k f)
  rw [safe_cr, safe_sy h hd] at h1
  unfold mm
  rw [h3, h4]
  have : (cr (sy t) k f).rl = t.rl := rfl
  rw [this] at h2 ⊢
  rw [List.take_of_length_le h1]
  rfl
theorem hs_at {lo : Nat} {W : World} {a : Option Addr} {c : Nat} {l : List Hx} (h : Hs lo W (.slice a l.length c) l) {i : Nat} (hi : i < l.length) : ∃ g x, a = some ⟨g, 0, none⟩ ∧ l[i]? = some x ∧ W.cell? ⟨g, i * 3, none⟩ = some (.int .i64 (x.k : Int)) ∧ W.cell? ⟨g, i * 3 + 1, none⟩ = some (.int .i64 (x.bal : Int)) ∧ W.cell? ⟨g, i * 3 + 2, none⟩ = some (.slice x.ao x.val.length x.cap) ∧ Row W x.ao x.val := by
  have hx : l[i]? = some l[i] := List.getElem?_eq_getElem hi
  rcases h.own.2 with ⟨e1, e2⟩ | ⟨g, cap, cur, e1, e2, e3, e4, e5, e6, e7⟩
  · omega
  · simp only [Value.slice.injEq] at e1
    obtain ⟨rfl, -, rfl⟩ := e1
    have hc : ∀ j, j < 3 → W.cell? ⟨g, i * 3 + j, none⟩ = (hC l[i])[j]? := fun j hj => by
      have h1 := hF_at l i _ hx j hj
      have hlt : i * 3 + j < l.length * 3 := by omega
      rw [World.ownsRow.cellAt h.own (i * 3 + j) hlt]
      exact h1
    exact ⟨g, l[i], rfl, hx, hc 0 (by omega), hc 1 (by omega), hc 2 (by omega), (h.ok _ (List.getElem_mem hi)).1⟩
theorem hV_len {l m : List Hx} (h : l.map hV = m.map hV) : l.length = m.length := by have := congrArg List.length h; simpa using this
theorem hV_at {l m : List Hx} (h : l.map hV = m.map hV) {i : Nat} {x y : Hx} (hx : l[i]? = some x) (hy : m[i]? = some y) : x.k = y.k ∧ x.bal = y.bal ∧ x.val = y.val := by
  have := congrArg (fun z => z[i]?) h
  simp only [List.getElem?_map, hx, hy, Option.map_some, Option.some.injEq, hV, Prod.mk.injEq, V.mk.injEq] at this
  exact ⟨this.1, this.2.1, this.2.2⟩
theorem strN {ao : Option Addr} {bs : List UInt8} {w : World} (h : Row w ao bs) (c : Nat) : ∀ n, (convert 30 9 (.slice ao bs.length c)).run Tryz.prog (w.drewN n) = .ok (.string (Kt.S bs)) (w.drewN n) := fun n => str_any (W := w.drewN n) (h.below (below_drewN (Below.refl _ _) n)) c

/-- Behind a snapshot, and any crash, all is there. -/
theorem snapped {N : Nat} {t : Tt.T} (h : TI N t) (k f : Int) : mm (Tt.rs (cr (sp t) k f)) = mm t := by
  obtain ⟨j, h1, h2, h3, h4⟩ := rs_take (h.sp.cr k f)
  unfold mm
  have e : (cr (sp t) k f).rl = [] := rfl
  rw [h3, h4, e, List.take_nil]
  rfl
end Go.Proofs.YthmedpabgblddabGreatDoor.Ty

namespace Go.Proofs.YthmedpabgblddabGreatDoor.Tz
open Go.RowKit Kt Tx Go.ChangeShapes Go.WideShapes Go.ChangeMaps
set_option linter.unusedVariables false
set_option maxRecDepth 20000

theorem arr5 {α : Type} {cs : Array α} (h : cs.size = 5) : ∃ a0 a1 a2 a3 a4, cs = #[a0, a1, a2, a3, a4] := by
  obtain ⟨l⟩ := cs
  match l, h with
  | [a0, a1, a2, a3, a4], _ => exact ⟨_, _, _, _, _, rfl⟩
theorem c3 : Tryz.prog.cellsOf 3 = 1 := by kernel_rfl
theorem c5 : Tryz.prog.cellsOf 5 = 1 := by kernel_rfl
theorem c26 : Tryz.prog.cellsOf 30 = 1 := by kernel_rfl
theorem c30 : Tryz.prog.cellsOf 41 = 5 := by kernel_rfl
theorem lt_of {α : Type} {l : List α} {i : Nat} {x : α} (h : l[i]? = some x) : i < l.length := by
  rcases Nat.lt_or_ge i l.length with h1 | h1
  · exact h1
  · rw [List.getElem?_eq_none h1] at h; cases h

section
variable {H : Type} {enc : TypeId × Value → H} {W : World} {base : Nat} {held : Bool}
theorem int_of {n : Nat} {v : Value} {x : Option (DataW H × List MemPlace)} (h : DataW.trod enc Tryz.prog W base (fun _ => true) held n 3 [v] = x) (hx : x.isSome = true) : ∃ a : Int, v = .int .i64 a ∧ a ≤ 9223372036854775807 := by
  obtain ⟨y, rfl⟩ := Option.isSome_iff_exists.1 hx
  obtain ⟨a, e, h1, h2⟩ := DataW.trod_int Tryz.underlying3 h
  refine ⟨a, by simpa using e, ?_⟩
  have := bounds_i64 h2
  omega
theorem bytes_of {n : Nat} {v : Value} {x : Option (DataW H × List MemPlace)} (h : DataW.trod enc Tryz.prog W base (fun _ => true) held n 30 [v] = x) (hx : x.isSome = true) : ∃ (bs : List UInt8) (ao : Option Addr) (cap : Nat), v = .slice ao bs.length cap ∧ Row W ao bs ∧ bs.length ≤ cap ∧ cap ≤ 9223372036854775807 := by
  obtain ⟨y, rfl⟩ := Option.isSome_iff_exists.1 hx
  rcases open_ints Tryz.underlying30 Tryz.underlying5 c5 h with ⟨e, -⟩ | ⟨a, len, cap, zs, e, -, hl, hm, hz, -, hc, hs⟩
  · exact ⟨[], none, 0, by simpa using e, Row.nil _ _, Nat.le_refl _, by omega⟩
  · obtain ⟨bs, h1, h2, h3, h4⟩ := isRow_bytes (w := W) (a := some a) (len := len) (cap := cap) (zs := zs) (.inr ⟨a, rfl, hl, hm, by simpa using hz, hc, hs⟩)
    exact ⟨bs, some a, cap, by rw [h1]; simpa using e, h4, by omega, h3⟩
theorem act_of {n : Nat} {v0 v1 v2 v3 v4 : Value} {x : Option (DataW H × List MemPlace)} (h : DataW.trod enc Tryz.prog W base (fun _ => true) held n 41 [v0, v1, v2, v3, v4] = x) (hx : x.isSome = true) :
    ∃ a : Ac, [v0, v1, v2, v3, v4] = aC a ∧ AcOk W a := by
  obtain ⟨y, rfl⟩ := Option.isSome_iff_exists.1 hx
  obtain ⟨xs, m, -, -, -, hl, hf⟩ := DataW.trod_struct Tryz.underlying41 h
  have hs : ∀ i, i < 5 → (xs[i]?).isSome = true := fun i hi => by rw [List.getElem?_eq_getElem (by rw [hl]; exact hi)]; rfl
  obtain ⟨n0, rfl, -⟩ := int_of (v := v0) (by simpa [c3] using hf 0 _ rfl) (hs 0 (by omega))
  obtain ⟨n1, rfl, -⟩ := int_of (v := v1) (by simpa [c3] using hf 1 _ rfl) (hs 1 (by omega))
  obtain ⟨n2, rfl, -⟩ := int_of (v := v2) (by simpa [c3] using hf 2 _ rfl) (hs 2 (by omega))
  obtain ⟨n3, rfl, hn3⟩ := int_of (v := v3) (by simpa [c3] using hf 3 _ rfl) (hs 3 (by omega))
  obtain ⟨bs, ao, cap, rfl, h1, h2, h3⟩ := bytes_of (v := v4) (by simpa [c26] using hf 4 _ rfl) (hs 4 (by omega))
  exact ⟨⟨n0, n1, n2, n3, ao, cap, bs⟩, rfl, h1, h2, h3, hn3⟩
theorem rowA_of {x : Addr} {len : Nat} (h : ∀ i, i < len → ∃ y, AcOk W y ∧ ∀ j, j < 5 → W.cell? (x.add (i * 5 + j)) = (aC y)[j]?) : ∃ l : List Ac, l.length = len ∧ RowA W (some x) l := by
  obtain ⟨l, hl, hx⟩ : ∃ l : List Ac, l.length = len ∧ ∀ i y, l[i]? = some y → AcOk W y ∧ ∀ j, j < 5 → W.cell? (x.add (i * 5 + j)) = (aC y)[j]? := by
    induction len with
    | zero => exact ⟨[], rfl, fun i y h => by simp at h⟩
    | succ k ih =>
      obtain ⟨l, h1, h2⟩ := ih (fun i hi => h i (by omega))
      obtain ⟨y, hy⟩ := h k (by omega)
      refine ⟨l ++ [y], by simp [h1], fun i z hz => ?_⟩
      rcases Nat.lt_or_ge i l.length with hi | hi
      · rw [List.getElem?_append_left hi] at hz; exact h2 i z hz
      · have e : i = k := by have := lt_of hz; simp at this; omega
        subst e
        rw [List.getElem?_append_right hi, h1] at hz
        simp at hz
        subst hz
        exact hy
  refine ⟨l, hl, fun y hy => ?_, fun h0 => ?_⟩
  · obtain ⟨i, hi⟩ := List.getElem?_of_mem hy
    exact (hx i y hi).1
  · obtain ⟨b, off, spot⟩ := x
    have hy : l[0]? = some l[0] := List.getElem?_eq_getElem h0
    have hc0 := (hx 0 _ hy).2 0 (by omega)
    have hspot : spot = none := by simpa [Addr.add] using World.cell?_spot (hc0.trans (show (aC l[0])[0]? = some _ from rfl))
    subst hspot
    refine ⟨b, off, rfl, fun i y hy j v hv => ?_⟩
    have hj : j < 5 := by have := lt_of hv; rwa [aC_len] at this
    have := (hx i y hy).2 j hj
    rw [Addr.add_lit, hv, ← Nat.add_assoc] at this
    exact this
theorem open_acts {n : Nat} {v : Value} {x : Option (DataW H × List MemPlace)} (h : DataW.trod enc Tryz.prog W base (fun _ => true) held n 22 [v] = x) (hx : x.isSome = true) : ∃ (l : List Ac) (ao : Option Addr) (cap : Nat), v = .slice ao l.length cap ∧ RowA W ao l ∧ l.length ≤ cap ∧ cap ≤ 9223372036854775807 := by
  obtain ⟨y, rfl⟩ := Option.isSome_iff_exists.1 hx
  rcases Go.Deep.open_slice Tryz.underlying22 h with ⟨e, -⟩ | ⟨a, len, cap, m, k, D, Pl, e, -, hl, hm, hmm, -, hx⟩
  · exact ⟨[], none, 0, by simpa using e, ⟨fun x hx => (by cases hx), fun h => by simp at h⟩, Nat.le_refl _, by omega⟩
  · have hlm : len ≤ m := by rw [hmm]; split <;> omega
    obtain ⟨l, h1, h3⟩ := rowA_of (W := W) (x := a) (len := len) (fun i hi => by
      obtain ⟨cs', g1, g2⟩ := hx i (by omega)
      rw [c30] at g1
      obtain ⟨-, hlen, hcell⟩ := World.cells?_some g1
      match cs', hlen with
      | [v0, v1, v2, v3, v4], _ =>
        obtain ⟨x, hg, ho⟩ := act_of g2 rfl
        refine ⟨x, ho, fun j hj => ?_⟩
        have := hcell j hj
        rw [Go.Deep.add_add, hg] at this
        exact this)
    exact ⟨l, some a, cap, by rw [h1]; simpa using e, h3, by omega, by unfold maxLen at hm; omega⟩
theorem open_act {r : Reach} {b0 : Nat} {v : Value} {d : DataW H} {p : List MemPlace} (hv : Value.okWide Tryz.prog W r b0 41 v) (h : DataW.Trod enc Tryz.prog W base (fun _ => true) held 41 v d p) :
    ∃ x : Ac, v = .agg (aC x).toArray ∧ AcOk W x := by
  obtain ⟨cs, rfl, hsz⟩ := okWide_struct Tryz.underlying41 hv
  obtain ⟨a0, a1, a2, a3, a4, rfl⟩ := arr5 (hsz.trans c30)
  obtain ⟨fuel, hf0⟩ := h
  obtain ⟨x, hx, ho⟩ := act_of (v0 := a0) (v1 := a1) (v2 := a2) (v3 := a3) (v4 := a4) (by simpa [Value.cells] using hf0) rfl
  exact ⟨x, by rw [← hx], ho⟩
theorem arr2 {α : Type} {cs : Array α} (h : cs.size = 2) : ∃ a0 a1, cs = #[a0, a1] := by
  obtain ⟨l⟩ := cs
  match l, h with
  | [a0, a1], _ => exact ⟨_, _, rfl⟩

end
end Go.Proofs.YthmedpabgblddabGreatDoor.Tz
