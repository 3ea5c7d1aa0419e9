/-
  The document's 'into' and its bounds.
-/
import Derived.Test.YtcpmcfagibmboaaPlQ2
import Derived.Deep.RegionHeld3
namespace Go.Proofs.Ytcpmcfagibmboaa.Pn
open Go.RowKit Pl Pw Pr Pf Pa Pq
open Kt hiding mkH
set_option linter.unusedVariables false
set_option maxRecDepth 20000

/-- Numbers as cells. -/
def J (l : List Int) : List Value := l.map (Value.int .i64)
theorem J_length (l : List Int) : (J l).length = l.length := by simp [J]
theorem J_append (a b : List Int) : J (a ++ b) = J a ++ J b := by simp [J]
/-- A slice of numbers, as it is read. -/
def Rn (w : World) (ao : Option Addr) (l : List Int) : Prop :=
  0 < l.length → ∃ b off, ao = some ⟨b, off, none⟩ ∧ ∀ i x, l[i]? = some x → w.cell? ⟨b, off + i, none⟩ = some (.int .i64 x)
theorem Rn.below {w w' : World} {ao : Option Addr} {l : List Int} (h : Rn w ao l) (hb : Below w.heap.size w w') : Rn w' ao l := by
  intro hl
  obtain ⟨b, off, e, hc⟩ := h hl
  refine ⟨b, off, e, fun i r hr => ?_⟩
  have hB := World.block_lt_of_cell? w _ (hc i r hr)
  rw [hb.cell (p := ⟨b, off + i, none⟩) hB]
  exact hc i r hr
def On (w : World) (base : Nat) (v : Value) (l : List Int) : Prop := w.ownsRow base 3 1 v l.length (J l)
theorem On.form {w : World} {base : Nat} {v : Value} {l : List Int} (h : On w base v l) : ∃ ao cap, v = .slice ao l.length cap ∧ l.length ≤ cap ∧ cap ≤ 9223372036854775807 := by
  rcases h.2 with ⟨e1, e2⟩ | ⟨g, c, cur, e1, _, _, e2, hc, _⟩
  · exact ⟨none, 0, by rw [e1, e2], by omega, by omega⟩
  · exact ⟨_, c, e1, e2, by unfold maxLen at hc; omega⟩
theorem On.rn {w : World} {base : Nat} {ao : Option Addr} {n cap : Nat} {l : List Int} (h : On w base (.slice ao n cap) l) : Rn w ao l := by
  intro hl
  rcases h.2 with ⟨e1, e2⟩ | ⟨g, c, cur, e1, _⟩
  · omega
  · simp only [Value.slice.injEq] at e1
    obtain ⟨rfl, rfl, rfl⟩ := e1
    refine ⟨g, 0, rfl, fun i x hx => ?_⟩
    have hi : i < l.length := (List.getElem?_eq_some_iff.1 hx).1
    have h0 := World.ownsRow.cellAt h i (by omega)
    rw [Nat.zero_add, h0, J, List.getElem?_map, hx]
    rfl
theorem info3 : (Try.prog.info? 3).map (fun i => (i.zero, i.size, i.bytes)) = some (some (.int .i64 0), 1, 8) := by kernel_rfl

theorem into_take {l : List Int} {k : Nat} {x : Int} (h : l[k]? = some x) : l.drop k = x :: l.drop (k + 1) := by
  have := List.getElem?_eq_some_iff.1 h
  rw [List.drop_eq_getElem_cons this.1, this.2]
/-- What is gathered so far, and whether n is in it. -/
def Mid (l : List Int) (n : Int) (k : Nat) (O : List Int) (put : Bool) : Prop :=
  (put = true → O ++ l.drop k = into l n) ∧ (put = false → O ++ into (l.drop k) n = into l n)
theorem mid_put {l : List Int} {n : Int} {k : Nat} {O : List Int} {x : Int} (h : Mid l n k O true) (hx : l[k]? = some x) : Mid l n (k + 1) (O ++ [x]) true :=
  ⟨fun _ => by rw [← h.1 rfl, into_take hx]; simp, fun h => by cases h⟩
theorem mid_lt {l : List Int} {n : Int} {k : Nat} {O : List Int} {x : Int} (h : Mid l n k O false) (hx : l[k]? = some x) (hn : n < x) : Mid l n (k + 1) (O ++ [n] ++ [x]) true :=
  ⟨fun _ => by rw [← h.2 rfl, into_take hx, into, if_pos (by omega), if_pos hn]; simp, fun h => by cases h⟩
theorem mid_eq {l : List Int} {n : Int} {k : Nat} {O : List Int} {x : Int} (h : Mid l n k O false) (hx : l[k]? = some x) (hn : n = x) : Mid l n (k + 1) (O ++ [x]) true :=
  ⟨fun _ => by rw [← h.2 rfl, into_take hx, into, if_pos (by omega), if_neg (by omega)]; simp, fun h => by cases h⟩
theorem mid_gt {l : List Int} {n : Int} {k : Nat} {O : List Int} {x : Int} (h : Mid l n k O false) (hx : l[k]? = some x) (hn : ¬ n ≤ x) : Mid l n (k + 1) (O ++ [x]) false :=
  ⟨fun h => (by cases h), fun _ => by rw [← h.2 rfl, into_take hx, into, if_neg hn]; simp⟩
theorem src_int (w : World) (x : Int) : Src Try.prog 1 66 (.slice (some ⟨w.heap.size, 0, none⟩) 1 1) 1 [.int .i64 x] (w.alloc (.cells #[.int .i64 x] 3)) :=
  src_val Try.underlying66 w (.int .i64 x) rfl

/-- One number more, behind an append. -/
theorem on_snoc {w : World} {base : Nat} {v : Value} {l : List Int} {x : Int} (h : w.ownsRow base 3 1 v (l.length + 1) (J l ++ [.int .i64 x])) : On w base v (l ++ [x]) := by
  unfold On; rw [List.length_append, J_append]; exact h

set_option maxHeartbeats 4000000 in
theorem into_any (w : World) (ao : Option Addr) (cap : Nat) (l : List Int) (n : Int) (hr : Rn w ao l) (hl : l.length ≤ 100000) :
    Calls Try.prog 56 #[.slice ao l.length cap, .int .i64 n] w fun e w' => ∃ v, e = .returned v ∧ On w' w.heap.size v (into l n) ∧ Below w.heap.size w w' := by
  have HR := mkH hr
  clear hr
  go_enter Try.func56, Try.ntmps56
  go_wp2
  go_loopw [5, 6, 7] (fun u pt i wr => ∃ k : Nat, ∃ O : List Int, ∃ put : Bool, k ≤ l.length ∧ i = .int .i64 k ∧ pt = .bool put ∧ On wr w.heap.size u O ∧ O.length ≤ k + 1 ∧ Hid (put = false → O.length ≤ k) ∧ Hid (Mid l n k O put) ∧ Below w.heap.size w wr) (fun _ _ i _ => l.length - (intOf i).toNat)
  case atStart => exact ⟨0, [], false, Nat.zero_le _, rfl, rfl, World.ownsRow_nil _ _ _ _, by simp, fun _ => Nat.zero_le _, ⟨fun h => (by cases h), fun _ => rfl⟩, Below.refl _ _⟩
  case round =>
    obtain ⟨k, O, put, hk, rfl, rfl, hO, hOl, HOk, HM, hX⟩ := hrel
    have hsz := hX.size
    by_cases hlt : k < l.length
    · obtain ⟨x, hx⟩ : ∃ x, l[k]? = some x := ⟨_, List.getElem?_eq_getElem hlt⟩
      obtain ⟨b, o, rfl, hc⟩ := (HR.out.below hX) (by omega)
      have u1 := hc k x hx
      have hlow : b < w.heap.size := by
        obtain ⟨b', o', e', hc'⟩ := HR.out (by omega)
        simp only [Option.some.injEq, Addr.mk.injEq, and_true] at e'
        rw [e'.1]; exact World.block_lt_of_cell? w _ (hc' k x hx)
      have hbl : b < wr.heap.size := World.block_lt_of_cell? wr _ u1
      have hi : (k : Int) < (l.length : Int) := by omega
      have hi0 : (0 : Int) ≤ (k : Int) := by omega
      have HX := mkH hx
      clear hc hx
      cases put with
      | true =>
        have HM2 := mkH (mid_put HM.out HX.out)
        have hOk : O.length ≤ k + 1 := hOl
        have HL2 : Hid (true = false → (O ++ [x]).length ≤ k + 1) := mkH (fun h => by cases h)
        go_wp2_with (at_builtin; refine (wpList_append_own_src _ rfl (.tmp 34) (.tmp 39) 66 66 rfl w.heap.size 3 (.int .i64 0) 1 8 Try.underlying66 info3 rfl (by decide) _ O.length (J O) rfl (hO.alloc _) _ 1 [.int .i64 x] rfl ?hsrc1 ?h631 ?hby1 ?hbs1 ?_))
        case hsrc1 => exact src_int wr x
        case h631 => unfold maxLen; omega
        case hby1 => omega
        case hbs1 => simp; omega
        intro v3 w3 hown3 hgrow3
        have hX3 := below_own (hO.alloc _) hgrow3 (hX.alloc hsz _) (by simp; omega)
        have hO3 := on_snoc hown3
        clear hown3 hgrow3 hO hX u1
        go_wp2
        go_roundw
        case rel => exact ⟨k + 1, O ++ [x], true, by omega, by go_num, rfl, hO3, by simp; omega, HL2, HM2, hX3⟩
        case measure => simp [intOf]; omega
      | false =>
        have hOk : O.length ≤ k := HOk.out rfl
        by_cases hgt : n ≤ x
        · by_cases hlt2 : n < x
          · have HM2 := mkH (mid_lt HM.out HX.out hlt2)
            have HL2 : Hid (true = false → (O ++ [n] ++ [x]).length ≤ k + 1) := mkH (fun h => by cases h)
            go_wp2_with (at_builtin; refine (wpList_append_own_src _ rfl (.tmp 30) (.tmp 32) 66 66 rfl w.heap.size 3 (.int .i64 0) 1 8 Try.underlying66 info3 rfl (by decide) _ O.length (J O) rfl (hO.alloc _) _ 1 [.int .i64 n] rfl ?hsrc4 ?h634 ?hby4 ?hbs4 ?_))
            case hsrc4 => exact src_int wr n
            case h634 => unfold maxLen; omega
            case hby4 => first | omega | (simp; omega)
            case hbs4 => first | omega | (simp; omega)
            intro v3 w3 hown3 hgrow3
            have hX3 := below_own (hO.alloc _) hgrow3 (hX.alloc hsz _) (by simp; omega)
            have hO3 := on_snoc hown3
            have hsz3 := hX3.size
            have u3 : w3.cell? ⟨b, o + k, none⟩ = some (.int .i64 x) := by
              rw [hX3.cell (p := ⟨b, o + k, none⟩) hlow, ← hX.cell (p := ⟨b, o + k, none⟩) hlow]; exact u1
            clear hown3 hgrow3 hO hX u1
            go_wp2_with (at_builtin; refine (wpList_append_own_src _ rfl (.tmp 34) (.tmp 39) 66 66 rfl w.heap.size 3 (.int .i64 0) 1 8 Try.underlying66 info3 rfl (by decide) _ (O ++ [n]).length (J (O ++ [n])) rfl (hO3.alloc _) _ 1 [.int .i64 x] rfl ?hsrc5 ?h635 ?hby5 ?hbs5 ?_))
            case hsrc5 => exact src_int w3 x
            case h635 => unfold maxLen; simp; omega
            case hby5 => simp; omega
            case hbs5 => simp; omega
            intro v4 w4 hown4 hgrow4
            have hX4 := below_own (hO3.alloc _) hgrow4 (hX3.alloc hsz3 _) (by simp; omega)
            have hO4 := on_snoc (l := O ++ [n]) (by simpa using hown4)
            clear hown4 hgrow4 hO3 hX3 u3
            go_wp2
            go_roundw
            case rel => exact ⟨k + 1, O ++ [n] ++ [x], true, by omega, by go_num, rfl, hO4, by simp; omega, HL2, HM2, hX4⟩
            case measure => simp [intOf]; omega
          · have heq : n = x := by omega
            subst heq
            have HL2 : Hid (true = false → (O ++ [n]).length ≤ k + 1) := mkH (fun h => by cases h)
            have HM2 := mkH (mid_eq HM.out HX.out rfl)
            go_wp2_with (at_builtin; refine (wpList_append_own_src _ rfl (.tmp 34) (.tmp 39) 66 66 rfl w.heap.size 3 (.int .i64 0) 1 8 Try.underlying66 info3 rfl (by decide) _ O.length (J O) rfl (hO.alloc _) _ 1 [.int .i64 n] rfl ?hsrc2 ?h632 ?hby2 ?hbs2 ?_))
            case hsrc2 => exact src_int wr n
            case h632 => unfold maxLen; omega
            case hby2 => first | omega | (simp; omega)
            case hbs2 => first | omega | (simp; omega)
            intro v3 w3 hown3 hgrow3
            have hX3 := below_own (hO.alloc _) hgrow3 (hX.alloc hsz _) (by simp; omega)
            have hO3 := on_snoc hown3
            clear hown3 hgrow3 hO hX u1
            go_wp2
            go_roundw
            case rel => exact ⟨k + 1, O ++ [n], true, by omega, by go_num, rfl, hO3, by simp; omega, HL2, HM2, hX3⟩
            case measure => simp [intOf]; omega
        · have HM2 := mkH (mid_gt HM.out HX.out hgt)
          have HL2 : Hid (false = false → (O ++ [x]).length ≤ k + 1) := mkH (fun _ => by simp; omega)
          go_wp2_with (at_builtin; refine (wpList_append_own_src _ rfl (.tmp 34) (.tmp 39) 66 66 rfl w.heap.size 3 (.int .i64 0) 1 8 Try.underlying66 info3 rfl (by decide) _ O.length (J O) rfl (hO.alloc _) _ 1 [.int .i64 x] rfl ?hsrc3 ?h633 ?hby3 ?hbs3 ?_))
          case hsrc3 => exact src_int wr x
          case h633 => unfold maxLen; omega
          case hby3 => first | omega | (simp; omega)
          case hbs3 => first | omega | (simp; omega)
          intro v3 w3 hown3 hgrow3
          have hX3 := below_own (hO.alloc _) hgrow3 (hX.alloc hsz _) (by simp; omega)
          have hO3 := on_snoc hown3
          clear hown3 hgrow3 hO hX u1
          go_wp2
          go_roundw
          case rel => exact ⟨k + 1, O ++ [x], false, by omega, by go_num, rfl, hO3, by simp; omega, fun _ => HL2.out trivial, HM2, hX3⟩
          case measure => simp [intOf]; omega
    · have : k = l.length := by omega
      subst this
      cases put with
      | true =>
        have e := HM.out.1 rfl
        rw [List.drop_length, List.append_nil] at e
        rw [e] at hO
        go_wp2
        go_ret
        exact ⟨_, rfl, hO, hX⟩
      | false =>
        have e : O ++ [n] = into l n := by have := HM.out.2 rfl; rw [List.drop_length] at this; exact this
        have HE := mkH e
        clear e
        go_wp2_with (at_builtin; refine (wpList_append_own_src _ rfl (.tmp 43) (.tmp 45) 66 66 rfl w.heap.size 3 (.int .i64 0) 1 8 Try.underlying66 info3 rfl (by decide) _ O.length (J O) rfl (hO.alloc _) _ 1 [.int .i64 n] rfl ?hsrc6 ?h636 ?hby6 ?hbs6 ?_))
        case hsrc6 => exact src_int wr n
        case h636 => unfold maxLen; omega
        case hby6 => first | omega | (simp; omega)
        case hbs6 => first | omega | (simp; omega)
        intro v3 w3 hown3 hgrow3
        have hX3 := below_own (hO.alloc _) hgrow3 (hX.alloc hsz _) (by simp; omega)
        have hO3 := on_snoc hown3
        rw [HE.out] at hO3
        clear hown3 hgrow3 hO hX
        go_wp2
        go_ret
        exact ⟨_, rfl, hO3, hX3⟩

theorem bnd1_no (b : List Int) (r : Rg) (h : may r = false) : bnd1 b r = b := by unfold bnd1; rw [if_neg (by simp [h])]
theorem bnd1_yes (b : List Int) (r : Rg) (h : may r = true) : bnd1 b r = into (into b r.1) r.2 := by unfold bnd1; rw [if_pos h]
theorem Rn_one (w : World) (x : Int) (T : TypeId) : Rn (w.alloc (.cells #[.int .i64 x] T)) (some ⟨w.heap.size, 0, none⟩) [x] := by
  intro _
  refine ⟨w.heap.size, 0, rfl, fun i y hy => ?_⟩
  have hi : i = 0 := by have := (List.getElem?_eq_some_iff.1 hy).1; simp at this; exact this
  subst hi
  simp at hy
  subst hy
  exact cell_one_new _ _ _ 0 _ rfl

set_option maxHeartbeats 4000000 in
theorem bounds_any (w : World) (ao : Option Addr) (cap : Nat) (l : List Rg) (hr : Rw w ao l) (hl : l.length ≤ 1000) :
    Calls Try.prog 32 #[.slice ao l.length cap] w fun e w' => ∃ ab cb, e = .returned (.slice ab (bounds l).length cb) ∧ Rn w' ab (bounds l) ∧ Below w.heap.size w w' := by
  have HR := mkH hr
  clear hr
  go_enter Try.func32, Try.ntmps32
  go_wp2
  go_loopw [3, 4] (fun u i wr => ∃ k : Nat, ∃ ab cb, k ≤ l.length ∧ i = .int .i64 k ∧ u = .slice ab (bounds (l.take k)).length cb ∧ Hid (Rn wr ab (bounds (l.take k))) ∧ Below w.heap.size w wr) (fun _ i _ => l.length - (intOf i).toNat)
  case atStart => exact ⟨0, some ⟨w.heap.size, 0, none⟩, 1, Nat.zero_le _, rfl, rfl, Rn_one w 0 _, (Below.refl _ w).alloc (Nat.le_refl _) _⟩
  case round =>
    obtain ⟨k, ab, cb, hk, rfl, rfl, HN, hX⟩ := hrel
    have hsz := hX.size
    by_cases hlt : k < l.length
    · obtain ⟨⟨a, b⟩, hrk⟩ := some_of hlt
      obtain ⟨bk, o, rfl, hc⟩ := (HR.out.below hX) (by omega)
      obtain ⟨u1, u2⟩ := hc k _ hrk
      have hi : (k : Int) < (l.length : Int) := by omega
      have hi0 : (0 : Int) ≤ (k : Int) := by omega
      have hm := fun W => rmay_any W a b
      have HSN := mkH (bounds_snoc hrk)
      have hbl := bounds_len (l.take k)
      have hbl2 : (bounds (l.take k)).length ≤ 1 + 2 * k := by rw [List.length_take] at hbl; omega
      clear hc hrk hbl
      generalize bounds (l.take k) = B at HN HSN hbl2 ⊢
      have HX := mkH hX
      clear hX
      cases hq : may (a, b)
      · rw [hq] at hm
        rw [bnd1_no _ _ hq] at HSN
        go_wp2_with fail
        refine (hm _).mono ?_
        rintro e w1 ⟨rfl, rfl⟩
        have hb1 := (Below.refl wr.heap.size wr).alloc (Nat.le_refl _) (.cells #[.int .i64 a, .int .i64 b] 26)
        have HN1 := mkH (HN.out.below hb1)
        have hX1 := HX.out.trans (hb1.mono HX.out.size)
        clear hb1 HN HX u1 u2
        go_wp2
        go_roundw
        case rel => exact ⟨k + 1, ab, cb, by omega, by go_num, by rw [HSN.out], by rw [HSN.out]; exact HN1, hX1⟩
        case measure => simp [intOf]; omega
      · rw [hq] at hm
        rw [bnd1_yes _ _ hq] at HSN
        have hl1 := into_len B a
        go_wp2_with fail
        refine (hm _).mono ?_
        rintro e w1 ⟨rfl, rfl⟩
        have hb1 := (Below.refl wr.heap.size wr).alloc (Nat.le_refl _) (.cells #[.int .i64 a, .int .i64 b] 26)
        have HN1 := mkH (HN.out.below hb1)
        have HX1 := mkH (HX.out.trans (hb1.mono HX.out.size))
        have v1 := (hb1.cell (p := ⟨bk, o + k * 2, none⟩) (World.block_lt_of_cell? wr _ u1)).trans u1
        have v2 := (hb1.cell (p := ⟨bk, o + k * 2 + 1, none⟩) (World.block_lt_of_cell? wr _ u2)).trans u2
        have hlow : bk < (wr.alloc (.cells #[.int .i64 a, .int .i64 b] 26)).heap.size := World.block_lt_of_cell? _ _ v1
        clear hb1 HN HX u1 u2
        go_wp2_with fail
        generalize (wr.alloc (.cells #[.int .i64 a, .int .i64 b] 26)) = wq at *
        have HV : Hid (∀ W, Below wq.heap.size wq W → W.cell? ⟨bk, o + k * 2, none⟩ = some (.int .i64 a) ∧ W.cell? ⟨bk, o + k * 2 + 1, none⟩ = some (.int .i64 b)) :=
          mkH (fun W hW => ⟨(hW.cell (p := ⟨bk, o + k * 2, none⟩) hlow).trans v1, (hW.cell (p := ⟨bk, o + k * 2 + 1, none⟩) hlow).trans v2⟩)
        have hcur : Below wq.heap.size wq wq.drew := (Below.refl _ _).drew
        go_region_held3 (fun W => W.cell? ⟨bk, o + k * 2, none⟩ = some (.int .i64 a) ∧ W.cell? ⟨bk, o + k * 2 + 1, none⟩ = some (.int .i64 b)) (first | exact hkeep | exact HV.out _ hcur | go_keep) (first
          | (have hq2 := hR2; clear hq2; go_at_call 56; refine (into_any _ ao2 cap2 (into B a) b ?_ (by omega)).mono ?_; exact hR2; rintro e3 w3 ⟨v3, rfl, hO3, hb3⟩; have hcur : Below wq.heap.size wq w3 := (by exact hcur.trans (hb3.mono hcur.size)); have hkeep := HV.out w3 hcur)
          | (go_at_call 56; refine (into_any _ ab cb B a ?_ (by omega)).mono ?_; exact HN1.out; rintro e2 w2 ⟨v2, rfl, hO2, hb2⟩; obtain ⟨ao2, cap2, hv2, hx2, hy2⟩ := hO2.form; subst hv2; have hR2 := hO2.rn; clear hO2 hx2 hy2; have hcur : Below wq.heap.size wq w2 := (by exact hcur.trans (hb2.mono hcur.size)); have hkeep := HV.out w2 hcur))
        obtain ⟨ao3, cap3, rfl, hx3, hy3⟩ := hO3.form
        have HN3 := mkH hO3.rn
        have hX3 := HX1.out.trans (hcur.mono HX1.out.size)
        clear hO3 hb3 hx3 hy3 hkeep hcur HX1 HN1 v1 v2 HV
        go_wp2
        go_roundw
        case rel => exact ⟨k + 1, ao3, cap3, by omega, by go_num, by rw [HSN.out], by rw [HSN.out]; exact HN3, hX3⟩
        case measure => simp [intOf]; omega
    · have : k = l.length := by omega
      subst this
      rw [List.take_length] at HN ⊢
      go_wp2
      go_ret
      exact ⟨ab, cb, rfl, HN.out, hX⟩
end Go.Proofs.Ytcpmcfagibmboaa.Pn
