/-
  slices.DeleteFunc with each function that Expire hands it; Expire.
-/
import Derived.Test.YtcpmaddleleblaaDoorGpA
import Derived.Test.YtcpmaddleleblaaDoorGpS
import Derived.Deep.LoopGhost
namespace Go.Proofs.YtcpmaddleleblaaDoor.Gb
open Go.RowKit Kt Gf Gp Gr Gk Ga Gs
set_option linter.unusedVariables false
set_option linter.unusedSimpArgs false
set_option maxRecDepth 20000

theorem ob {a : Option Addr} {n c m d k : Nat} (h : (Value.slice a n c).ownBlock = some k) : (Value.slice a m d).ownBlock = some k := by cases a <;> exact h
theorem take_snoc {α : Type} {l : List α} {i : Nat} {x : α} (h : l[i]? = some x) : l.take (i + 1) = l.take i ++ [x] := by
  rw [List.take_add_one, h]; rfl
theorem filter_snoc {α : Type} (p : α → Bool) (l : List α) (j : Nat) (x : α) (hx : l[j]? = some x) : (l.take (j + 1)).filter p = (l.take j).filter p ++ (if p x then [x] else []) := by
  rw [take_snoc hx, List.filter_append]
  cases h : p x <;> simp [h]
theorem filter_all {α : Type} (p : α → Bool) (l : List α) (i : Nat) (h : ∀ j y, j < i → l[j]? = some y → p y = false) : (l.take i).filter (fun x => !p x) = l.take i := by
  rw [List.filter_eq_self]
  intro a ha
  obtain ⟨k, hk⟩ := List.getElem?_of_mem ha
  have hk1 := lt_of hk
  rw [List.length_take] at hk1
  rw [List.getElem?_take, if_pos (by omega)] at hk
  simp [h k a (by omega) hk]

/-- What the row holds on the way: i stay of the first j. -/
structure Kp {α : Type} (p : α → Bool) (l dk : List α) (i j : Nat) : Prop where
  lt : i < j
  le : j ≤ l.length
  len : dk.length = l.length
  low : dk.take i = (l.take j).filter (fun x => !p x)
  high : dk.drop j = l.drop j
theorem Kp.start {α : Type} {p : α → Bool} {l : List α} {i : Nat} {x : α} (hx : l[i]? = some x) (hp : p x = true) (h : ∀ j y, j < i → l[j]? = some y → p y = false) : Kp p l l i (i + 1) :=
  ⟨by omega, lt_of hx, rfl, by rw [filter_snoc _ l i x hx, filter_all p l i h]; simp [hp], rfl⟩
theorem Kp.at' {α : Type} {p : α → Bool} {l dk : List α} {i j : Nat} (h : Kp p l dk i j) {x : α} (hx : l[j]? = some x) : dk[j]? = some x := by
  have h1 : (dk.drop j)[0]? = (l.drop j)[0]? := by rw [h.high]
  rw [List.getElem?_drop, List.getElem?_drop, Nat.add_zero, hx] at h1
  exact h1
theorem Kp.high1 {α : Type} {p : α → Bool} {l dk : List α} {i j : Nat} (h : Kp p l dk i j) : dk.drop (j + 1) = l.drop (j + 1) := by
  rw [← List.drop_drop, ← List.drop_drop, h.high]
theorem Kp.skip {α : Type} {p : α → Bool} {l dk : List α} {i j : Nat} (h : Kp p l dk i j) {x : α} (hx : l[j]? = some x) (hp : p x = true) : Kp p l dk i (j + 1) :=
  ⟨by have := h.lt; omega, lt_of hx, h.len, by rw [h.low, filter_snoc _ l j x hx]; simp [hp], h.high1⟩
theorem Kp.keep {α : Type} {p : α → Bool} {l dk : List α} {i j : Nat} (h : Kp p l dk i j) {x : α} (hx : l[j]? = some x) (hp : p x = false) : Kp p l (dk.set i x) (i + 1) (j + 1) := by
  have hlt := h.lt
  have hle := lt_of hx
  have hi : i < dk.length := by rw [h.len]; omega
  refine ⟨by omega, hle, by rw [List.length_set, h.len], ?_, ?_⟩
  · rw [filter_snoc _ l j x hx, ← h.low, take_snoc (x := x) (by rw [List.getElem?_set_self hi]), List.take_set_of_le (Nat.le_refl _)]
    simp [hp]
  · rw [List.drop_set_of_lt (by omega), h.high1]
theorem Kp.done {α : Type} {p : α → Bool} {l dk : List α} {i : Nat} (h : Kp p l dk i l.length) : dk.take i = l.filter (fun x => !p x) ∧ i = (l.filter (fun x => !p x)).length := by
  have h1 := h.low
  rw [List.take_length] at h1
  refine ⟨h1, ?_⟩
  rw [← h1, List.length_take, h.len]
  have := h.lt
  omega
theorem Fl_take {α : Type} {n : Nat} {cs : α → List Value} (hn : ∀ x, (cs x).length = n) (l : List α) (i : Nat) : (Fl cs l).take (i * n) = Fl cs (l.take i) := by
  rcases Nat.lt_or_ge i l.length with h | h
  · have e : Fl cs l = Fl cs (l.take i) ++ Fl cs (l.drop i) := by rw [← Fl_append, List.take_append_drop]
    rw [e]
    exact List.take_left' (by rw [Fl_length hn, List.length_take]; congr 1; omega)
  · rw [List.take_of_length_le h, List.take_of_length_le]
    rw [Fl_length hn]
    exact Nat.mul_le_mul_right n h

set_option maxHeartbeats 4000000 in
theorem delExp1 (w : World) (B : Nat) (ao : Option Addr) (cap : Nat) (l : List K) (hO : w.ownsRow B 61 6 (.slice ao l.length cap) l.length (Fk l)) (hl : l.length ≤ 1000000000) (p : K → Bool) (c0 c1 : Nat)
    (hS : ∀ W x, Fr (fun k => (Value.slice ao l.length cap).ownBlock = some k) w W → x ∈ l → Calls Tryd.prog 55 #[.agg (kC x).toArray, .pointer (some ⟨c0, 0, none⟩), .pointer (some ⟨c1, 0, none⟩)] W fun e w' => e = .returned (.bool (p x)) ∧ Below W.heap.size W w') :
    Calls Tryd.prog 54 #[.slice ao l.length cap, .func (.func 55) #[] #[.pointer (some ⟨c0, 0, none⟩), .pointer (some ⟨c1, 0, none⟩)]] w fun e w' => e = .returned (.slice ao (l.filter (fun x => !p x)).length cap) ∧ w'.ownsRow B 61 6 (.slice ao (l.filter (fun x => !p x)).length cap) (l.filter (fun x => !p x)).length (Fk (l.filter (fun x => !p x))) ∧ Fr (fun k => (Value.slice ao l.length cap).ownBlock = some k) w w' := by
  have hI := idxExp1 w ao cap l (RowS.own kC_len hO) hl p c0 c1 (fun W x hb hx => hS W x (Fr.ofBelow hb) hx)
  have HO := mkH hO
  have HS := mkH hS
  clear hO hS
  rcases idx_spec p l with ⟨he, hall⟩ | ⟨k0, x0, he, hx0, hp0, hall⟩
  · have e1 : idxI p l = -1 := by unfold idxI; rw [he]
    rw [e1] at hI
    have HA := mkH hall
    clear he hall
    go_enter Tryd.func54, Tryd.ntmps54
    go_wp2_with fail
    refine hI.mono ?_
    rintro e w1 ⟨rfl, hb⟩
    clear hI
    go_wp2
    go_ret
    have hf : l.filter (fun x => !p x) = l := by rw [List.filter_eq_self]; intro a ha; simp [HA.out a ha]
    rw [hf]
    exact ⟨rfl, own_below HO.out hb, Fr.ofBelow hb⟩
  · have e1 : idxI p l = (k0 : Int) := by unfold idxI; rw [he]
    have hk0 := lt_of hx0
    obtain ⟨g, hg⟩ := own_some HO.out (by omega)
    rw [e1] at hI
    have hne1 : ((k0 : Int) == -1) = false := beq_eq_false_iff_ne.2 (by omega)
    have HK := mkH (Kp.start hx0 hp0 hall)
    clear he hall hx0 hp0
    subst hg
    obtain ⟨n, hn⟩ : ∃ n, l.length = n := ⟨_, rfl⟩
    have hcn : n ≤ cap := by rw [← hn]; exact own_le HO.out
    have HN := mkH hn
    rw [hn] at HO HS hI hk0 hl ⊢
    clear hn
    have hrl := fun (W : World) (i : Nat) (h : i ≤ n) => run_l (P := Tryd.prog) W Tryd.underlying22 szK (some ⟨g, 0, none⟩) n cap i h
    have hrh := fun (W : World) (i : Nat) (h : i ≤ cap) => run_h (P := Tryd.prog) W Tryd.underlying22 szK (some ⟨g, 0, none⟩) n cap i h
    have HRL := mkH hrl
    have HRH := mkH hrh
    clear hrl hrh
    go_enter Tryd.func54, Tryd.ntmps54
    go_wp2_with fail
    refine hI.mono ?_
    rintro e w1 ⟨rfl, hb⟩
    clear hI
    have HO1 := mkH (own_below HO.out hb)
    have HF1 : Hid (Fr (fun k => (Value.slice (some ⟨g, 0, none⟩) n cap).ownBlock = some k) w w1) := Fr.ofBelow hb
    clear HO hb
    go_wp2_with fail
    go_loopg [5, 6, 7] n (fun gg s5 s6 _ wr => ∃ (i j : Nat) (dk : List K), s5 = .int .i64 i ∧ s6 = .int .i64 j ∧ j ≤ n ∧ n - j ≤ gg ∧ Hid (Kp p l dk i j) ∧ Hid (wr.ownsRow B 61 6 (.slice (some ⟨g, 0, none⟩) n cap) n (Fk dk)) ∧ Hid (Fr (fun k => (Value.slice (some ⟨g, 0, none⟩) n cap).ownBlock = some k) w wr))
    case atStart => exact ⟨k0, k0 + 1, l, rfl, by go_num, by omega, by omega, HK, HO1, HF1⟩
    case round =>
      clear HK HO1 HF1
      obtain ⟨i, j, dk, rfl, rfl, hjn, hgg, HKp, HOr, HFr⟩ := hrel
      have hij := HKp.out.lt
      by_cases hlt : j < n
      · obtain ⟨x, hx⟩ := some_of (l := l) (i := j) (by rw [HN.out]; exact hlt)
        have hdx := HKp.out.at' hx
        have hrow : RowK wr (some ⟨g, 0, none⟩) dk := RowS.own kC_len (show wr.ownsRow B 61 6 (.slice (some ⟨g, 0, none⟩) n cap) dk.length (Fl kC dk) by rw [HKp.out.len, HN.out]; exact HOr.out)
        obtain ⟨b, off, hbo, z0, z1, z2, z3, z4, z5⟩ := atK hrow hdx
        simp only [Option.some.injEq, Addr.mk.injEq] at hbo
        obtain ⟨rfl, rfl, -⟩ := hbo
        simp only [Nat.zero_add] at z0 z1 z2 z3 z4 z5
        have HX := mkH hx
        have hpx : ∃ t, p x = t := ⟨_, rfl⟩
        obtain ⟨t, ht⟩ := hpx
        have hcl := HS.out (wr.alloc (.cells (kC x).toArray 61)) x (HFr.out.alloc _) (List.mem_of_getElem? hx)
        rw [ht] at hcl
        have HT := mkH ht
        have hbox := Bx.new wr (kC x).toArray 61
        have hnw : wr.heap.size ≤ (wr.alloc (.cells (kC x).toArray 61)).heap.size := by simp
        have HFA := mkH (HFr.out.alloc (.cells (kC x).toArray 61))
        have HOA := mkH (own_below HOr.out ((Below.refl _ wr).alloc (Nat.le_refl _) (.cells (kC x).toArray 61)))
        have HXX := mkH (show ∃ y, y = x from ⟨x, rfl⟩)
        clear hx ht hrow hdx
        obtain ⟨q1, q2, q3, q4, q5, q6⟩ := x
        simp only [kC] at hcl hbox HFA HOA z0 z1 z2 z3 z4 z5
        have HC := mkH hcl
        have HBX := mkH hbox
        have hltz : (j : Int) < (n : Int) := by omega
        clear hcl hbox
        go_wp2_with fail
        refine HC.out.mono ?_
        rintro e w2 ⟨rfl, hb2⟩
        have HO2 := mkH (own_below HOA.out hb2)
        have HF2 := mkH (HFA.out.trans (Fr.ofBelow (F := fun _ => False) hb2) (fun i h => h.elim))
        have hB2 := HBX.out.bel hb2
        have y0 := hB2.cell 0 _ rfl; have y1 := hB2.cell 1 _ rfl; have y2 := hB2.cell 2 _ rfl; have y3 := hB2.cell 3 _ rfl; have y4 := hB2.cell 4 _ rfl; have y5 := hB2.cell 5 _ rfl
        clear HC hb2 HOA HFA HBX hB2 z0 z1 z2 z3 z4 z5 HOr HFr
        have hin : i < n := by omega
        have hinz : (i : Int) < (n : Int) := by omega
        obtain ⟨r, hr⟩ := some_of (l := dk) (i := i) (by rw [HKp.out.len, HN.out]; exact hin)
        have HRr := mkH hr
        clear hr
        cases t with
        | true =>
          go_wp2
          go_roundg (n - (j + 1))
          case measure => omega
          case rel => exact ⟨i, j + 1, dk, rfl, by go_num, by omega, Nat.le_refl _, HKp.out.skip HX.out HT.out, HO2, HF2⟩
        | false =>
          go_wp2_with (refine wpList_st_own (P := Tryd.prog) kC_len kC_one rfl 61 (.tmp 33) (.tmp 32) rfl B 61 g cap i n dk HO2.out r ⟨q1, q2, q3, q4, q5, q6⟩ HRr.out szK rfl rfl ?_; intro w3 ho3 hf3)
          go_roundg (n - (j + 1))
          case measure => omega
          case rel => exact ⟨i + 1, j + 1, dk.set i ⟨q1, q2, q3, q4, q5, q6⟩, by go_num, by go_num, by omega, Nat.le_refl _, HKp.out.keep HX.out HT.out, ho3, HF2.out.trans hf3 (fun k hk => .inl (by subst hk; rfl))⟩
      · obtain rfl : j = n := by omega
        have hltz : ¬ (j : Int) < (j : Int) := by omega
        have hKd := HKp.out
        rw [← HN.out] at hKd
        obtain ⟨hd1, hd2⟩ := hKd.done
        have hsl := fun W => HRL.out W i (by omega)
        have hsh := fun W => HRH.out W i (by omega)
        obtain ⟨w4, hcl, ho4, hf4⟩ := run_clear_own (P := Tryd.prog) HOr.out 22 Tryd.underlying22 (.agg #[.int .i64 0, .int .i64 0, .int .i64 0, .int .i64 0, .int .i64 0, .string ByteArray.empty]) 56 infoK rfl (by decide) (by intro u hu; simp [Value.cells] at hu; rcases hu with rfl | rfl <;> rfl) i (by omega) (ad (some ⟨g, 0, none⟩) cap i 6) (cap - i) (by rcases Nat.eq_or_lt_of_le (show i ≤ cap by omega) with h | h; exact .inl (by omega); exact .inr (ad_at g cap i 6 (by omega))) (ad_some _ _ _ _) 0
        have HO4 := mkH ho4
        have HF4 := mkH (HFr.out.trans hf4 (fun k hk => .inl (by subst hk; rfl)))
        have HD := mkH (And.intro hd1 hd2)
        generalize ad (some ⟨g, 0, none⟩) cap i 6 = aq at hsl hcl
        clear hd1 hd2 hKd ho4 hf4 HRL HRH HOr HFr
        go_wp2
        go_ret
        refine ⟨by rw [← HD.out.2]; rfl, ?_, HF4⟩
        have h5 := HO4.out
        rw [Fl_take kC_len, HD.out.1] at h5
        rw [← HD.out.2]
        exact h5

set_option maxHeartbeats 4000000 in
theorem delExp2 (w : World) (B : Nat) (ao : Option Addr) (cap : Nat) (l : List M) (hO : w.ownsRow B 70 3 (.slice ao l.length cap) l.length (Fm l)) (hl : l.length ≤ 1000000000) (p : M → Bool) (c0 : Nat)
    (hS : ∀ W x, Fr (fun k => (Value.slice ao l.length cap).ownBlock = some k) w W → x ∈ l → Calls Tryd.prog 57 #[.agg (mC x).toArray, .pointer (some ⟨c0, 0, none⟩)] W fun e w' => e = .returned (.bool (p x)) ∧ Below W.heap.size W w') :
    Calls Tryd.prog 56 #[.slice ao l.length cap, .func (.func 57) #[] #[.pointer (some ⟨c0, 0, none⟩)]] w fun e w' => e = .returned (.slice ao (l.filter (fun x => !p x)).length cap) ∧ w'.ownsRow B 70 3 (.slice ao (l.filter (fun x => !p x)).length cap) (l.filter (fun x => !p x)).length (Fm (l.filter (fun x => !p x))) ∧ Fr (fun k => (Value.slice ao l.length cap).ownBlock = some k) w w' := by
  have hI := idxExp2 w ao cap l (RowS.own mC_len hO) hl p c0 (fun W x hb hx => hS W x (Fr.ofBelow hb) hx)
  have HO := mkH hO
  have HS := mkH hS
  clear hO hS
  rcases idx_spec p l with ⟨he, hall⟩ | ⟨k0, x0, he, hx0, hp0, hall⟩
  · have e1 : idxI p l = -1 := by unfold idxI; rw [he]
    rw [e1] at hI
    have HA := mkH hall
    clear he hall
    go_enter Tryd.func56, Tryd.ntmps56
    go_wp2_with fail
    refine hI.mono ?_
    rintro e w1 ⟨rfl, hb⟩
    clear hI
    go_wp2
    go_ret
    have hf : l.filter (fun x => !p x) = l := by rw [List.filter_eq_self]; intro a ha; simp [HA.out a ha]
    rw [hf]
    exact ⟨rfl, own_below HO.out hb, Fr.ofBelow hb⟩
  · have e1 : idxI p l = (k0 : Int) := by unfold idxI; rw [he]
    have hk0 := lt_of hx0
    obtain ⟨g, hg⟩ := own_some HO.out (by omega)
    rw [e1] at hI
    have hne1 : ((k0 : Int) == -1) = false := beq_eq_false_iff_ne.2 (by omega)
    have HK := mkH (Kp.start hx0 hp0 hall)
    clear he hall hx0 hp0
    subst hg
    obtain ⟨n, hn⟩ : ∃ n, l.length = n := ⟨_, rfl⟩
    have hcn : n ≤ cap := by rw [← hn]; exact own_le HO.out
    have HN := mkH hn
    rw [hn] at HO HS hI hk0 hl ⊢
    clear hn
    have hrl := fun (W : World) (i : Nat) (h : i ≤ n) => run_l (P := Tryd.prog) W Tryd.underlying23 szM (some ⟨g, 0, none⟩) n cap i h
    have hrh := fun (W : World) (i : Nat) (h : i ≤ cap) => run_h (P := Tryd.prog) W Tryd.underlying23 szM (some ⟨g, 0, none⟩) n cap i h
    have HRL := mkH hrl
    have HRH := mkH hrh
    clear hrl hrh
    go_enter Tryd.func56, Tryd.ntmps56
    go_wp2_with fail
    refine hI.mono ?_
    rintro e w1 ⟨rfl, hb⟩
    clear hI
    have HO1 := mkH (own_below HO.out hb)
    have HF1 : Hid (Fr (fun k => (Value.slice (some ⟨g, 0, none⟩) n cap).ownBlock = some k) w w1) := Fr.ofBelow hb
    clear HO hb
    go_wp2_with fail
    go_loopg [5, 6, 7] n (fun gg s5 s6 _ wr => ∃ (i j : Nat) (dk : List M), s5 = .int .i64 i ∧ s6 = .int .i64 j ∧ j ≤ n ∧ n - j ≤ gg ∧ Hid (Kp p l dk i j) ∧ Hid (wr.ownsRow B 70 3 (.slice (some ⟨g, 0, none⟩) n cap) n (Fm dk)) ∧ Hid (Fr (fun k => (Value.slice (some ⟨g, 0, none⟩) n cap).ownBlock = some k) w wr))
    case atStart => exact ⟨k0, k0 + 1, l, rfl, by go_num, by omega, by omega, HK, HO1, HF1⟩
    case round =>
      clear HK HO1 HF1
      obtain ⟨i, j, dk, rfl, rfl, hjn, hgg, HKp, HOr, HFr⟩ := hrel
      have hij := HKp.out.lt
      by_cases hlt : j < n
      · obtain ⟨x, hx⟩ := some_of (l := l) (i := j) (by rw [HN.out]; exact hlt)
        have hdx := HKp.out.at' hx
        have hrow : RowM wr (some ⟨g, 0, none⟩) dk := RowS.own mC_len (show wr.ownsRow B 70 3 (.slice (some ⟨g, 0, none⟩) n cap) dk.length (Fl mC dk) by rw [HKp.out.len, HN.out]; exact HOr.out)
        obtain ⟨b, off, hbo, z0, z1, z2⟩ := atM hrow hdx
        simp only [Option.some.injEq, Addr.mk.injEq] at hbo
        obtain ⟨rfl, rfl, -⟩ := hbo
        simp only [Nat.zero_add] at z0 z1 z2
        have HX := mkH hx
        have hpx : ∃ t, p x = t := ⟨_, rfl⟩
        obtain ⟨t, ht⟩ := hpx
        have hcl := HS.out (wr.alloc (.cells (mC x).toArray 70)) x (HFr.out.alloc _) (List.mem_of_getElem? hx)
        rw [ht] at hcl
        have HT := mkH ht
        have hbox := Bx.new wr (mC x).toArray 70
        have hnw : wr.heap.size ≤ (wr.alloc (.cells (mC x).toArray 70)).heap.size := by simp
        have HFA := mkH (HFr.out.alloc (.cells (mC x).toArray 70))
        have HOA := mkH (own_below HOr.out ((Below.refl _ wr).alloc (Nat.le_refl _) (.cells (mC x).toArray 70)))
        have HXX := mkH (show ∃ y, y = x from ⟨x, rfl⟩)
        clear hx ht hrow hdx
        obtain ⟨q1, q2, q3⟩ := x
        simp only [mC] at hcl hbox HFA HOA z0 z1 z2
        have HC := mkH hcl
        have HBX := mkH hbox
        have hltz : (j : Int) < (n : Int) := by omega
        clear hcl hbox
        go_wp2_with fail
        refine HC.out.mono ?_
        rintro e w2 ⟨rfl, hb2⟩
        have HO2 := mkH (own_below HOA.out hb2)
        have HF2 := mkH (HFA.out.trans (Fr.ofBelow (F := fun _ => False) hb2) (fun i h => h.elim))
        have hB2 := HBX.out.bel hb2
        have y0 := hB2.cell 0 _ rfl; have y1 := hB2.cell 1 _ rfl; have y2 := hB2.cell 2 _ rfl
        clear HC hb2 HOA HFA HBX hB2 z0 z1 z2 HOr HFr
        have hin : i < n := by omega
        have hinz : (i : Int) < (n : Int) := by omega
        obtain ⟨r, hr⟩ := some_of (l := dk) (i := i) (by rw [HKp.out.len, HN.out]; exact hin)
        have HRr := mkH hr
        clear hr
        cases t with
        | true =>
          go_wp2
          go_roundg (n - (j + 1))
          case measure => omega
          case rel => exact ⟨i, j + 1, dk, rfl, by go_num, by omega, Nat.le_refl _, HKp.out.skip HX.out HT.out, HO2, HF2⟩
        | false =>
          go_wp2_with (refine wpList_st_own (P := Tryd.prog) mC_len mC_one rfl 70 (.tmp 33) (.tmp 32) rfl B 70 g cap i n dk HO2.out r ⟨q1, q2, q3⟩ HRr.out szM rfl rfl ?_; intro w3 ho3 hf3)
          go_roundg (n - (j + 1))
          case measure => omega
          case rel => exact ⟨i + 1, j + 1, dk.set i ⟨q1, q2, q3⟩, by go_num, by go_num, by omega, Nat.le_refl _, HKp.out.keep HX.out HT.out, ho3, HF2.out.trans hf3 (fun k hk => .inl (by subst hk; rfl))⟩
      · obtain rfl : j = n := by omega
        have hltz : ¬ (j : Int) < (j : Int) := by omega
        have hKd := HKp.out
        rw [← HN.out] at hKd
        obtain ⟨hd1, hd2⟩ := hKd.done
        have hsl := fun W => HRL.out W i (by omega)
        have hsh := fun W => HRH.out W i (by omega)
        obtain ⟨w4, hcl, ho4, hf4⟩ := run_clear_own (P := Tryd.prog) HOr.out 23 Tryd.underlying23 (.agg #[.string ByteArray.empty, .int .i64 0, .int .i64 0]) 32 infoM rfl (by decide) (by intro u hu; simp [Value.cells] at hu; rcases hu with rfl | rfl <;> rfl) i (by omega) (ad (some ⟨g, 0, none⟩) cap i 3) (cap - i) (by rcases Nat.eq_or_lt_of_le (show i ≤ cap by omega) with h | h; exact .inl (by omega); exact .inr (ad_at g cap i 3 (by omega))) (ad_some _ _ _ _) 0
        have HO4 := mkH ho4
        have HF4 := mkH (HFr.out.trans hf4 (fun k hk => .inl (by subst hk; rfl)))
        have HD := mkH (And.intro hd1 hd2)
        generalize ad (some ⟨g, 0, none⟩) cap i 3 = aq at hsl hcl
        clear hd1 hd2 hKd ho4 hf4 HRL HRH HOr HFr
        go_wp2
        go_ret
        refine ⟨by rw [← HD.out.2]; rfl, ?_, HF4⟩
        have h5 := HO4.out
        rw [Fl_take mC_len, HD.out.1] at h5
        rw [← HD.out.2]
        exact h5

set_option maxHeartbeats 2000000 in
theorem Expire_any (w : World) (g : G) (ka : Option Addr) (kc : Nat) (ma : Option Addr) (mc : Nat) (h : Gl w g ka kc ma mc) (hk : g.kept.length ≤ 1000000000) (hm : g.marks.length ≤ 1000000000) (ho : OkG g) (now keep : Int) (hn : Sm now) :
    Calls Tryd.prog 24 #[.agg (gC g ka kc ma mc), .int .i64 now, .int .i64 keep] w fun e w' => ∃ ka' kc' ma' mc', e = .returned (.agg (gC (expire g now keep) ka' kc' ma' mc')) ∧ Go' w.heap.size w' (expire g now keep) ka' kc' ma' mc' ∧ Below w.heap.size w w' := by
  have HL := mkH h
  have HOk := mkH ho
  obtain ⟨nx, kp, mk, at'⟩ := g
  simp only [gC] at *
  obtain ⟨o1, ho1⟩ : ∃ o, Obj.cells #[Value.int .i64 nx, .slice ka kp.length kc, .slice ma mk.length mc, .string at'] 25 = o := ⟨_, rfl⟩
  have hA := (((Below.refl w.heap.size w).alloc (Nat.le_refl _) (.cells #[Value.int .i64 nx, .slice ka kp.length kc, .slice ma mk.length mc, .string at'] 25)).alloc (by simp) (.cells #[.int .i64 now] 3)).alloc (by simp; omega) (.cells #[.int .i64 keep] 3) |>.alloc (by simp; omega) (.cells #[.int .i64 0, .slice none 0 0, .slice none 0 0, .string ⟨#[]⟩] 25)
  have hc1 := ((Bx.new1 w (.cells #[Value.int .i64 nx, .slice ka kp.length kc, .slice ma mk.length mc, .string at'] 25) #[.int .i64 now] 3).alloc (.cells #[.int .i64 keep] 3)).alloc (.cells #[.int .i64 0, .slice none 0 0, .slice none 0 0, .string ⟨#[]⟩] 25)
  have hc2 := (Bx.new2 w (.cells #[Value.int .i64 nx, .slice ka kp.length kc, .slice ma mk.length mc, .string at'] 25) (.cells #[.int .i64 now] 3) #[.int .i64 keep] 3).alloc (.cells #[.int .i64 0, .slice none 0 0, .slice none 0 0, .string ⟨#[]⟩] 25)
  have hc3 := Bx.new3 w (.cells #[Value.int .i64 nx, .slice ka kp.length kc, .slice ma mk.length mc, .string at'] 25) (.cells #[.int .i64 now] 3) (.cells #[.int .i64 keep] 3) #[.int .i64 0, .slice none 0 0, .slice none 0 0, .string ⟨#[]⟩] 25
  have hsz : ((((w.alloc (.cells #[Value.int .i64 nx, .slice ka kp.length kc, .slice ma mk.length mc, .string at'] 25)).alloc (.cells #[.int .i64 now] 3)).alloc (.cells #[.int .i64 keep] 3)).alloc (.cells #[.int .i64 0, .slice none 0 0, .slice none 0 0, .string ⟨#[]⟩] 25)).heap.size = w.heap.size + 4 := by simp
  have HA := mkH hA
  have HC1 := mkH hc1
  have HC2 := mkH hc2
  have HC3 := mkH hc3
  have HSZ := mkH hsz
  clear h ho ho1 hA hc1 hc2 hc3 hsz
  go_enter Tryd.func24, Tryd.ntmps24
  go_wp2_with fail
  generalize (((w.alloc (.cells #[Value.int .i64 nx, .slice ka kp.length kc, .slice ma mk.length mc, .string at'] 25)).alloc (.cells #[.int .i64 now] 3)).alloc (.cells #[.int .i64 keep] 3)).alloc (.cells #[.int .i64 0, .slice none 0 0, .slice none 0 0, .string ⟨#[]⟩] 25) = w0 at *
  obtain ⟨R, hR⟩ : ∃ R, w.heap.size + 1 + 1 + 1 = R := ⟨_, rfl⟩
  rw [hR] at HC3 ⊢
  obtain ⟨C2, hC2⟩ : ∃ R, w.heap.size + 1 + 1 = R := ⟨_, rfl⟩
  rw [hC2] at HC2 ⊢
  obtain ⟨C1, hC1⟩ : ∃ R, w.heap.size + 1 = R := ⟨_, rfl⟩
  rw [hC1] at HC1 ⊢
  have HN := mkH (And.intro hC1 (And.intro hC2 hR))
  clear hR hC2 hC1
  refine (copyOf_any w0 ⟨nx, kp, mk, at'⟩ ka kc ma mc (HL.out.below HA.out) hk hm).mono ?_
  rintro e w1 ⟨ka1, kc1, ma1, mc1, rfl, hg1, hb1⟩
  simp only [gC]
  have hB := Bx.new w1 #[Value.int .i64 nx, .slice ka1 kp.length kc1, .slice ma1 mk.length mc1, .string at'] 25
  have hal : Below w1.heap.size w1 (w1.alloc (.cells #[Value.int .i64 nx, .slice ka1 kp.length kc1, .slice ma1 mk.length mc1, .string at'] 25)) := (Below.refl _ w1).alloc (Nat.le_refl _) _
  have hkd1 := own_kinds hg1.k hg1.m (by decide)
  have hlt1 : ∀ k, (Value.slice ka1 kp.length kc1).ownBlock = some k → w0.heap.size ≤ k ∧ k < w1.heap.size := fun k hk => hg1.k.lt k hk
  have hlt2 : ∀ k, (Value.slice ma1 mk.length mc1).ownBlock = some k → w0.heap.size ≤ k ∧ k < w1.heap.size := fun k hk => hg1.m.lt k hk
  have hsz1 := hb1.size
  have hS0 := HSZ.out
  obtain ⟨n1, n2, n3⟩ := HN.out
  have HB := mkH hB
  have HK2 := mkH (own_below hg1.k hal)
  have HM2 := mkH (own_below hg1.m hal)
  have HC1' := mkH ((HC1.out.bel hb1).alloc (.cells #[Value.int .i64 nx, .slice ka1 kp.length kc1, .slice ma1 mk.length mc1, .string at'] 25))
  have HC2' := mkH ((HC2.out.bel hb1).alloc (.cells #[Value.int .i64 nx, .slice ka1 kp.length kc1, .slice ma1 mk.length mc1, .string at'] 25))
  have HC3' := mkH ((HC3.out.bel hb1).alloc (.cells #[Value.int .i64 nx, .slice ka1 kp.length kc1, .slice ma1 mk.length mc1, .string at'] 25))
  have HA1 : Hid (Below w.heap.size w (w1.alloc (.cells #[Value.int .i64 nx, .slice ka1 kp.length kc1, .slice ma1 mk.length mc1, .string at'] 25))) := (HA.out.trans (hb1.mono (by omega))).alloc (by omega) _
  clear hg1 hb1 hB hal HC1 HC2 HC3 HA
  go_wp2_with fail
  generalize w1.alloc (.cells #[Value.int .i64 nx, .slice ka1 kp.length kc1, .slice ma1 mk.length mc1, .string at'] 25) = w2 at *
  have hKk : ∀ W, Fr (fun k => (Value.slice ka1 kp.length kc1).ownBlock = some k) w2 W → ∀ b, (b < w0.heap.size ∨ w1.heap.size ≤ b) → ∀ cs t, Bx w2 b cs t → Bx W b cs t := fun W hf b hb cs t hx => hx.fr hf (fun hk => by have := hlt1 b hk; omega)
  refine (delExp1 w2 w0.heap.size ka1 kc1 kp HK2.out hk (fun m => decide (keep ≤ now - m.sent)) C1 C2 (fun W x hf hx => expire1_any W x C1 C2 now keep ((hKk W hf C1 (by omega) _ _ HC1'.out).cell 0 _ rfl) ((hKk W hf C2 (by omega) _ _ HC2'.out).cell 0 _ rfl) hn (HOk.out.2.1 x hx))).mono ?_
  rintro e w3 ⟨rfl, ho3, hf3⟩
  have hO3 := hKk w3 hf3 w1.heap.size (by omega) _ _ HB.out
  have hR3 := hKk w3 hf3 R (by omega) _ _ HC3'.out
  have hc13 := hKk w3 hf3 C1 (by omega) _ _ HC1'.out
  have hm3 := own_fr HM2.out hf3 (fun k hk hk2 => hkd1 k hk2 hk)
  have HA3 : Hid (Below w.heap.size w w3) := below_fr HA1.out hf3 (fun k hk => by have := hlt1 k hk; omega) (Nat.le_refl _)
  obtain ⟨d0, d1, d2, d3, f0, f1, f2, f3⟩ := hO3.four
  obtain ⟨L1, hL1⟩ : ∃ L, kp.filter (fun m => !decide (keep ≤ now - m.sent)) = L := ⟨_, rfl⟩
  rw [hL1] at ho3
  simp only [hL1]
  have HL1 := mkH hL1
  have hlt3 : ∀ k, (Value.slice ka1 L1.length kc1).ownBlock = some k → w0.heap.size ≤ k ∧ k < w1.heap.size := fun k hk => hlt1 k (ob hk)
  have HO3 := mkH hO3
  have HR3 := mkH hR3
  have HC13 := mkH hc13
  have HM3 := mkH hm3
  have HK3 := mkH ho3
  clear hO3 hR3 hc13 hm3 ho3 hf3 hKk HB HK2 HM2 HC1' HC2' HC3' HA1 hL1
  go_wp2_with fail
  have hO4 := HO3.out.s1 (.slice ka1 L1.length kc1)
  have hF4 := HO3.out.frset 1 (.slice ka1 L1.length kc1)
  have hR4 := HR3.out.fr hF4 (by omega)
  have hC4 := HC13.out.fr hF4 (by omega)
  have hK4 := own_fr HK3.out hF4 (fun k hk hk2 => by have := hlt3 k hk; omega)
  have hM4 := own_fr HM3.out hF4 (fun k hk hk2 => by have := hlt2 k hk; omega)
  have HA4 : Hid (Below w.heap.size w (w3.setCell ⟨w1.heap.size, 1, none⟩ (.slice ka1 L1.length kc1))) := below_fr HA3.out hF4 (fun k hk => by omega) (Nat.le_refl _)
  generalize w3.setCell ⟨w1.heap.size, 1, none⟩ (.slice ka1 L1.length kc1) = w4 at *
  clear HO3 HR3 HC13 HM3 HK3 HA3 hF4 d0 d1 d2 d3 f0 f1 f2 f3
  have hKk : ∀ W, Fr (fun k => (Value.slice ma1 mk.length mc1).ownBlock = some k) w4 W → ∀ b, (b < w0.heap.size ∨ w1.heap.size ≤ b) → ∀ cs t, Bx w4 b cs t → Bx W b cs t := fun W hf b hb cs t hx => hx.fr hf (fun hk => by have := hlt2 b hk; omega)
  refine (delExp2 w4 w0.heap.size ma1 mc1 mk hM4 hm (fun m => decide (300 ≤ now - m.ti)) C1 (fun W x hf hx => expire2_any W x C1 now ((hKk W hf C1 (by omega) _ _ hC4).cell 0 _ rfl) hn (HOk.out.2.2 x hx))).mono ?_
  rintro e w5 ⟨rfl, ho5, hf5⟩
  have hO5 := hKk w5 hf5 w1.heap.size (by omega) _ _ hO4
  have hR5 := hKk w5 hf5 R (by omega) _ _ hR4
  have hk5 := own_fr hK4 hf5 (fun k hk hk2 => hkd1 k (ob hk) hk2)
  have HA5 : Hid (Below w.heap.size w w5) := below_fr HA4.out hf5 (fun k hk => by have := hlt2 k hk; omega) (Nat.le_refl _)
  obtain ⟨d0, d1, d2, d3, f0, f1, f2, f3⟩ := hO5.four
  obtain ⟨e0, e1, e2, e3, g0, g1, g2, g3⟩ := hR5.four
  obtain ⟨L2, hL2⟩ : ∃ L, mk.filter (fun m => !decide (300 ≤ now - m.ti)) = L := ⟨_, rfl⟩
  rw [hL2] at ho5
  simp only [hL2]
  have HL2 := mkH hL2
  have hlt5 : ∀ k, (Value.slice ma1 L2.length mc1).ownBlock = some k → w0.heap.size ≤ k ∧ k < w1.heap.size := fun k hk => hlt2 k (ob hk)
  have HO5 := mkH hO5
  have HR5 := mkH hR5
  have HM5 := mkH ho5
  have HK5 := mkH hk5
  have hne : ¬ w1.heap.size = R := by omega
  have hne2 : ¬ R = w1.heap.size := by omega
  clear hO5 hR5 ho5 hk5 hf5 hKk hL2 hO4 hR4 hC4 hK4 hM4 HA4
  go_wp2
  have hO6 := HO5.out.s2 (.slice ma1 L2.length mc1)
  have hF6 := HO5.out.frset 2 (.slice ma1 L2.length mc1)
  have hR6 := HR5.out.fr hF6 (by omega)
  generalize w5.setCell ⟨w1.heap.size, 2, none⟩ (.slice ma1 L2.length mc1) = w6 at *
  obtain ⟨hR7, hF7⟩ := hR6.sAll (v0 := .int .i64 nx) (v1 := .slice ka1 L1.length kc1) (v2 := .slice ma1 L2.length mc1) (v3 := .string at')
  generalize (((w6.setCell ⟨R, 0, none⟩ (.int .i64 nx)).setCell ⟨R, 1, none⟩ (.slice ka1 L1.length kc1)).setCell ⟨R, 2, none⟩ (.slice ma1 L2.length mc1)).setCell ⟨R, 3, none⟩ (.string at') = w7 at *
  have hex : expire ⟨nx, kp, mk, at'⟩ now keep = ⟨nx, L1, L2, at'⟩ := by unfold expire; rw [← HL1.out, ← HL2.out]
  rw [hex]
  refine bodyPost_ret (res_c rfl _ _ _ rfl (loadG hR7)) rfl ⟨ka1, kc1, ma1, mc1, rfl, ⟨?_, ?_⟩, ?_⟩
  · exact own_mono (own_fr (own_fr HK5.out hF6 (fun k hk hkw => by have := hlt3 k hk; omega)) hF7 (fun k hk hkw => by have := hlt3 k hk; omega)) (by omega)
  · exact own_mono (own_fr (own_fr HM5.out hF6 (fun k hk hkw => by have := hlt5 k hk; omega)) hF7 (fun k hk hkw => by have := hlt5 k hk; omega)) (by omega)
  · exact below_fr (below_fr HA5.out hF6 (by intro k hk; omega) (Nat.le_refl _)) hF7 (by intro k hk; omega) (Nat.le_refl _)
end Go.Proofs.YtcpmaddleleblaaDoor.Gb
