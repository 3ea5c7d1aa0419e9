/-
  slices.IndexFunc and slices.DeleteFunc of things, with the function that remove hands on.
-/
import Derived.Test.YteaempemdolcjaaNtG
import Derived.Deep.LoopGhost
namespace Go.Proofs.Yteaempemdolcjaa.Ny
open Go.RowKit Kt Gf Nr Gk Ns Na
set_option linter.unusedVariables false
set_option linter.unusedSimpArgs false
set_option maxRecDepth 20000

/-- A thing at a place. -/
theorem itAt {w : World} {ao : Option Addr} {l : List (Int × Int)} (h : RowS 2 iC w ao l) {i : Nat} {x : Int × Int} (hx : l[i]? = some x) : ∃ b off, ao = some ⟨b, off, none⟩ ∧ w.cell? ⟨b, off + i * 2, none⟩ = some (.int .i64 x.1) ∧ w.cell? ⟨b, off + i * 2 + 1, none⟩ = some (.int .i64 x.2) := by
  have hi := lt_of hx
  obtain ⟨b, off, e, hc⟩ := h (by omega)
  exact ⟨b, off, e, hc i _ hx 0 _ rfl, hc i _ hx 1 _ rfl⟩
def idx {α : Type} (p : α → Bool) : List α → Option Nat
  | [] => none
  | x :: t => if p x then some 0 else (idx p t).map (· + 1)


theorem idx_spec {α : Type} (p : α → Bool) (l : List α) : (idx p l = none ∧ ∀ x ∈ l, p x = false) ∨ ∃ i x, idx p l = some i ∧ l[i]? = some x ∧ p x = true ∧ ∀ j y, j < i → l[j]? = some y → p y = false := by
  induction l with
  | nil => exact .inl ⟨rfl, fun x hx => by cases hx⟩
  | cons a t ih =>
    cases h : p a with
    | true => exact .inr ⟨0, a, by simp [idx, h], by simp, h, fun j y hj => by omega⟩
    | false =>
      rcases ih with ⟨e, ha⟩ | ⟨i, x, e, hx, hp, ha⟩
      · refine .inl ⟨by simp [idx, h, e], fun x hx => ?_⟩
        rcases List.mem_cons.1 hx with rfl | hx
        · exact h
        · exact ha x hx
      · refine .inr ⟨i + 1, x, by simp [idx, h, e], by simpa using hx, hp, fun j y hj hy => ?_⟩
        cases j with
        | zero => simp at hy; rw [← hy]; exact h
        | succ j => exact ha j y (by omega) (by simpa using hy)

theorem idx_none {α : Type} (p : α → Bool) (l : List α) (h : ∀ x ∈ l, p x = false) : idx p l = none := by
  rcases idx_spec p l with ⟨e, _⟩ | ⟨k, y, e, hy, hpy, _⟩
  · exact e
  · have := h y (List.mem_of_getElem? hy); rw [hpy] at this; cases this

theorem idx_take {α : Type} (p : α → Bool) (l : List α) (i : Nat) (x : α) (hx : l[i]? = some x) (hp : p x = true) (h : ∀ j y, j < i → l[j]? = some y → p y = false) : idx p l = some i := by
  rcases idx_spec p l with ⟨e, ha⟩ | ⟨k, y, e, hy, hpy, ha⟩
  · have := ha x (List.mem_of_getElem? hx); rw [hp] at this; cases this
  · rcases Nat.lt_trichotomy k i with hk | hk | hk
    · have := h k y hk hy; rw [hpy] at this; cases this
    · rw [e, hk]
    · have := ha i x hk hx; rw [hp] at this; cases this

def idxI {α : Type} (p : α → Bool) (l : List α) : Int := match idx p l with | none => -1 | some i => (i : Int)

theorem idxI_none {α : Type} (p : α → Bool) (l : List α) (h : ∀ j x, j < l.length → l[j]? = some x → p x = false) : idxI p l = -1 := by
  unfold idxI
  rw [idx_none p l (fun x hx => by obtain ⟨i, hi⟩ := List.getElem?_of_mem hx; exact h i x (List.getElem?_eq_some_iff.1 hi).1 hi)]

theorem idxI_some {α : Type} (p : α → Bool) (l : List α) (i : Nat) (x : α) (hx : l[i]? = some x) (hp : p x = true) (h : ∀ j y, j < i → l[j]? = some y → p y = false) : idxI p l = (i : Int) := by
  unfold idxI
  rw [idx_take p l i x hx hp h]


theorem ob {a : Option Addr} {n c m d k : Nat} (h : (Value.slice a n c).ownBlock = some k) : (Value.slice a m d).ownBlock = some k := by cases a <;> exact h
theorem take_snoc {α : Type} {l : List α} {i : Nat} {x : α} (h : l[i]? = some x) : l.take (i + 1) = l.take i ++ [x] := by
  rw [List.take_add_one, h]; rfl
theorem filter_snoc {α : Type} (p : α → Bool) (l : List α) (j : Nat) (x : α) (hx : l[j]? = some x) : (l.take (j + 1)).filter p = (l.take j).filter p ++ (if p x then [x] else []) := by
  rw [take_snoc hx, List.filter_append]
  cases h : p x <;> simp [h]
theorem filter_all {α : Type} (p : α → Bool) (l : List α) (i : Nat) (h : ∀ j y, j < i → l[j]? = some y → p y = false) : (l.take i).filter (fun x => !p x) = l.take i := by
  rw [List.filter_eq_self]
  intro a ha
  obtain ⟨k, hk⟩ := List.getElem?_of_mem ha
  have hk1 := lt_of hk
  rw [List.length_take] at hk1
  rw [List.getElem?_take, if_pos (by omega)] at hk
  simp [h k a (by omega) hk]

/-- What the row holds on the way: i stay of the first j. -/
structure Kp {α : Type} (p : α → Bool) (l dk : List α) (i j : Nat) : Prop where
  lt : i < j
  le : j ≤ l.length
  len : dk.length = l.length
  low : dk.take i = (l.take j).filter (fun x => !p x)
  high : dk.drop j = l.drop j
theorem Kp.start {α : Type} {p : α → Bool} {l : List α} {i : Nat} {x : α} (hx : l[i]? = some x) (hp : p x = true) (h : ∀ j y, j < i → l[j]? = some y → p y = false) : Kp p l l i (i + 1) :=
  ⟨by omega, lt_of hx, rfl, by rw [filter_snoc _ l i x hx, filter_all p l i h]; simp [hp], rfl⟩
theorem Kp.at' {α : Type} {p : α → Bool} {l dk : List α} {i j : Nat} (h : Kp p l dk i j) {x : α} (hx : l[j]? = some x) : dk[j]? = some x := by
  have h1 : (dk.drop j)[0]? = (l.drop j)[0]? := by rw [h.high]
  rw [List.getElem?_drop, List.getElem?_drop, Nat.add_zero, hx] at h1
  exact h1
theorem Kp.high1 {α : Type} {p : α → Bool} {l dk : List α} {i j : Nat} (h : Kp p l dk i j) : dk.drop (j + 1) = l.drop (j + 1) := by
  rw [← List.drop_drop, ← List.drop_drop, h.high]
theorem Kp.skip {α : Type} {p : α → Bool} {l dk : List α} {i j : Nat} (h : Kp p l dk i j) {x : α} (hx : l[j]? = some x) (hp : p x = true) : Kp p l dk i (j + 1) :=
  ⟨by have := h.lt; omega, lt_of hx, h.len, by rw [h.low, filter_snoc _ l j x hx]; simp [hp], h.high1⟩
theorem Kp.keep {α : Type} {p : α → Bool} {l dk : List α} {i j : Nat} (h : Kp p l dk i j) {x : α} (hx : l[j]? = some x) (hp : p x = false) : Kp p l (dk.set i x) (i + 1) (j + 1) := by
  have hlt := h.lt
  have hle := lt_of hx
  have hi : i < dk.length := by rw [h.len]; omega
  refine ⟨by omega, hle, by rw [List.length_set, h.len], ?_, ?_⟩
  · rw [filter_snoc _ l j x hx, ← h.low, take_snoc (x := x) (by rw [List.getElem?_set_self hi]), List.take_set_of_le (Nat.le_refl _)]
    simp [hp]
  · rw [List.drop_set_of_lt (by omega), h.high1]
theorem Kp.done {α : Type} {p : α → Bool} {l dk : List α} {i : Nat} (h : Kp p l dk i l.length) : dk.take i = l.filter (fun x => !p x) ∧ i = (l.filter (fun x => !p x)).length := by
  have h1 := h.low
  rw [List.take_length] at h1
  refine ⟨h1, ?_⟩
  rw [← h1, List.length_take, h.len]
  have := h.lt
  omega

theorem Fl_take {α : Type} {n : Nat} {cs : α → List Value} (hn : ∀ x, (cs x).length = n) (l : List α) (i : Nat) : (Fl cs l).take (i * n) = Fl cs (l.take i) := by
  rcases Nat.lt_or_ge i l.length with h | h
  · have e : Fl cs l = Fl cs (l.take i) ++ Fl cs (l.drop i) := by rw [← Fl_append, List.take_append_drop]
    rw [e]
    exact List.take_left' (by rw [Fl_length hn, List.length_take]; congr 1; omega)
  · rw [List.take_of_length_le h, List.take_of_length_le]
    rw [Fl_length hn]
    exact Nat.mul_le_mul_right n h


set_option maxHeartbeats 2000000 in
theorem idxRm (w : World) (ao : Option Addr) (cap : Nat) (l : List (Int × Int)) (hr : RowS 2 iC w ao l) (hl : l.length ≤ 1000000000) (p : Int × Int → Bool) (c0 : Nat)
    (hS : ∀ W x, Below w.heap.size w W → x ∈ l → Calls Try.prog 44 #[.agg (iC x).toArray, .pointer (some ⟨c0, 0, none⟩)] W fun e w' => e = .returned (.bool (p x)) ∧ Below W.heap.size W w') :
    Calls Try.prog 47 #[.slice ao l.length cap, .func (.func 44) #[] #[.pointer (some ⟨c0, 0, none⟩)]] w fun e w' => e = .returned (.int .i64 (idxI p l)) ∧ Below w.heap.size w w' := by
  have HR := mkH hr
  have HS := mkH hS
  obtain ⟨R, hR⟩ : ∃ R, idxI p l = R := ⟨_, rfl⟩
  have HI := mkH hR
  rw [hR]
  clear hr hS hR
  go_enter Try.func47, Try.ntmps47
  go_wp2_with fail
  go_loopw [8] (fun i wr => ∃ j : Nat, j ≤ l.length ∧ i = .int .i64 (j : Int) ∧ Hid (Below w.heap.size w wr) ∧ Hid (∀ k x, k < j → l[k]? = some x → p x = false)) (fun i _ => l.length - (intOf i).toNat)
  case atStart => exact ⟨0, Nat.zero_le _, rfl, mkH (Below.refl _ _), mkH (fun k x hk => by omega)⟩
  case round =>
    obtain ⟨j, hj, rfl, HB, HP⟩ := hrel
    rcases Nat.lt_or_ge j l.length with hjl | hjl
    · obtain ⟨x, hx⟩ := some_of hjl
      obtain ⟨b, off, rfl, z0, z1⟩ := itAt (HR.out.below HB.out) hx
      have hcl := HS.out wr x HB.out (List.mem_of_getElem? hx)
      have hsw := HB.out.size
      have HX := mkH hx
      have hpx : ∃ t, p x = t := ⟨_, rfl⟩
      obtain ⟨t, ht⟩ := hpx
      rw [ht] at hcl
      have HT := mkH ht
      clear hx ht
      obtain ⟨q1, q2⟩ := x
      simp only [iC] at hcl z0 z1
      have HC := mkH hcl
      clear hcl
      go_wp2_with fail
      refine HC.out.mono ?_
      rintro e w1 ⟨rfl, hb1⟩
      have HB1 : Hid (Below w.heap.size w w1) := HB.out.trans (hb1.mono hsw)
      clear HC hb1 z0 z1
      cases t with
      | true =>
        go_wp2
        go_ret
        exact ⟨by rw [← HI.out, idxI_some p l j _ HX.out HT.out HP.out]; rfl, HB1⟩
      | false =>
        go_wp2
        go_roundw
        case rel => exact ⟨j + 1, by omega, by go_num, HB1, mkH (fun k y hk hy => by
          rcases Nat.lt_or_ge k j with h | h
          · exact HP.out k y h hy
          · obtain rfl : k = j := by omega
            rw [HX.out] at hy; cases hy; exact HT.out)⟩
        case measure => simp [intOf]; omega
    · obtain rfl : j = l.length := by omega
      go_wp2
      go_ret
      exact ⟨by rw [← HI.out, idxI_none p l HP.out]; rfl, HB⟩


set_option maxHeartbeats 4000000 in
theorem delRm (w : World) (B : Nat) (ao : Option Addr) (cap : Nat) (l : List (Int × Int)) (hO : w.ownsRow B 55 2 (.slice ao l.length cap) l.length (Fi l)) (hl : l.length ≤ 1000000000) (p : Int × Int → Bool) (c0 : Nat)
    (hS : ∀ W x, Fr (fun k => (Value.slice ao l.length cap).ownBlock = some k) w W → x ∈ l → Calls Try.prog 44 #[.agg (iC x).toArray, .pointer (some ⟨c0, 0, none⟩)] W fun e w' => e = .returned (.bool (p x)) ∧ Below W.heap.size W w') :
    Calls Try.prog 43 #[.slice ao l.length cap, .func (.func 44) #[] #[.pointer (some ⟨c0, 0, none⟩)]] w fun e w' => e = .returned (.slice ao (l.filter (fun x => !p x)).length cap) ∧ w'.ownsRow B 55 2 (.slice ao (l.filter (fun x => !p x)).length cap) (l.filter (fun x => !p x)).length (Fi (l.filter (fun x => !p x))) ∧ Fr (fun k => (Value.slice ao l.length cap).ownBlock = some k) w w' := by
  have hI := idxRm w ao cap l (RowS.own iC_len hO) hl p c0 (fun W x hb hx => hS W x (Fr.ofBelow hb) hx)
  have HO := mkH hO
  have HS := mkH hS
  clear hO hS
  rcases idx_spec p l with ⟨he, hall⟩ | ⟨k0, x0, he, hx0, hp0, hall⟩
  · have e1 : idxI p l = -1 := by unfold idxI; rw [he]
    rw [e1] at hI
    have HA := mkH hall
    clear he hall
    go_enter Try.func43, Try.ntmps43
    go_wp2_with fail
    refine hI.mono ?_
    rintro e w1 ⟨rfl, hb⟩
    clear hI
    go_wp2
    go_ret
    have hf : l.filter (fun x => !p x) = l := by rw [List.filter_eq_self]; intro a ha; simp [HA.out a ha]
    rw [hf]
    exact ⟨rfl, own_below HO.out hb, Fr.ofBelow hb⟩
  · have e1 : idxI p l = (k0 : Int) := by unfold idxI; rw [he]
    have hk0 := lt_of hx0
    obtain ⟨g, hg⟩ := own_some HO.out (by omega)
    rw [e1] at hI
    have hne1 : ((k0 : Int) == -1) = false := beq_eq_false_iff_ne.2 (by omega)
    have HK := mkH (Kp.start hx0 hp0 hall)
    clear he hall hx0 hp0
    subst hg
    obtain ⟨n, hn⟩ : ∃ n, l.length = n := ⟨_, rfl⟩
    have hcn : n ≤ cap := by rw [← hn]; exact own_le HO.out
    have HN := mkH hn
    rw [hn] at HO HS hI hk0 hl ⊢
    clear hn
    have hrl := fun (W : World) (i : Nat) (h : i ≤ n) => run_l (P := Try.prog) W Try.underlying24 szI (some ⟨g, 0, none⟩) n cap i h
    have hrh := fun (W : World) (i : Nat) (h : i ≤ cap) => run_h (P := Try.prog) W Try.underlying24 szI (some ⟨g, 0, none⟩) n cap i h
    have HRL := mkH hrl
    have HRH := mkH hrh
    clear hrl hrh
    go_enter Try.func43, Try.ntmps43
    go_wp2_with fail
    refine hI.mono ?_
    rintro e w1 ⟨rfl, hb⟩
    clear hI
    have HO1 := mkH (own_below HO.out hb)
    have HF1 : Hid (Fr (fun k => (Value.slice (some ⟨g, 0, none⟩) n cap).ownBlock = some k) w w1) := Fr.ofBelow hb
    clear HO hb
    go_wp2_with fail
    go_loopg [5, 6, 7] n (fun gg s5 s6 _ wr => ∃ (i j : Nat) (dk : List (Int × Int)), s5 = .int .i64 i ∧ s6 = .int .i64 j ∧ j ≤ n ∧ n - j ≤ gg ∧ Hid (Kp p l dk i j) ∧ Hid (wr.ownsRow B 55 2 (.slice (some ⟨g, 0, none⟩) n cap) n (Fi dk)) ∧ Hid (Fr (fun k => (Value.slice (some ⟨g, 0, none⟩) n cap).ownBlock = some k) w wr))
    case atStart => exact ⟨k0, k0 + 1, l, rfl, by go_num, by omega, by omega, HK, HO1, HF1⟩
    case round =>
      clear HK HO1 HF1
      obtain ⟨i, j, dk, rfl, rfl, hjn, hgg, HKp, HOr, HFr⟩ := hrel
      have hij := HKp.out.lt
      by_cases hlt : j < n
      · obtain ⟨x, hx⟩ := some_of (l := l) (i := j) (by rw [HN.out]; exact hlt)
        have hdx := HKp.out.at' hx
        have hrow : RowS 2 iC wr (some ⟨g, 0, none⟩) dk := RowS.own iC_len (show wr.ownsRow B 55 2 (.slice (some ⟨g, 0, none⟩) n cap) dk.length (Fl iC dk) by rw [HKp.out.len, HN.out]; exact HOr.out)
        obtain ⟨b, off, hbo, z0, z1⟩ := itAt hrow hdx
        simp only [Option.some.injEq, Addr.mk.injEq] at hbo
        obtain ⟨rfl, rfl, -⟩ := hbo
        simp only [Nat.zero_add] at z0 z1
        have HX := mkH hx
        have hpx : ∃ t, p x = t := ⟨_, rfl⟩
        obtain ⟨t, ht⟩ := hpx
        have hcl := HS.out (wr.alloc (.cells (iC x).toArray 55)) x (HFr.out.alloc _) (List.mem_of_getElem? hx)
        rw [ht] at hcl
        have HT := mkH ht
        have hbox := Bx.new wr (iC x).toArray 55
        have hnw : wr.heap.size ≤ (wr.alloc (.cells (iC x).toArray 55)).heap.size := by simp
        have HFA := mkH (HFr.out.alloc (.cells (iC x).toArray 55))
        have HOA := mkH (own_below HOr.out ((Below.refl _ wr).alloc (Nat.le_refl _) (.cells (iC x).toArray 55)))
        have HXX := mkH (show ∃ y, y = x from ⟨x, rfl⟩)
        clear hx ht hrow hdx
        obtain ⟨q1, q2⟩ := x
        simp only [iC] at hcl hbox HFA HOA z0 z1
        have HC := mkH hcl
        have HBX := mkH hbox
        have hltz : (j : Int) < (n : Int) := by omega
        clear hcl hbox
        go_wp2_with fail
        refine HC.out.mono ?_
        rintro e w2 ⟨rfl, hb2⟩
        have HO2 := mkH (own_below HOA.out hb2)
        have HF2 := mkH (HFA.out.trans (Fr.ofBelow (F := fun _ => False) hb2) (fun i h => h.elim))
        have hB2 := HBX.out.bel hb2
        have y0 := hB2.cell 0 _ rfl; have y1 := hB2.cell 1 _ rfl
        clear HC hb2 HOA HFA HBX hB2 z0 z1 HOr HFr
        have hin : i < n := by omega
        have hinz : (i : Int) < (n : Int) := by omega
        obtain ⟨r, hr⟩ := some_of (l := dk) (i := i) (by rw [HKp.out.len, HN.out]; exact hin)
        have HRr := mkH hr
        clear hr
        cases t with
        | true =>
          go_wp2
          go_roundg (n - (j + 1))
          case measure => omega
          case rel => exact ⟨i, j + 1, dk, rfl, by go_num, by omega, Nat.le_refl _, HKp.out.skip HX.out HT.out, HO2, HF2⟩
        | false =>
          go_wp2_with (refine wpList_st_own (P := Try.prog) iC_len iC_one rfl 55 (.tmp 33) (.tmp 32) rfl B 55 g cap i n dk HO2.out r ⟨q1, q2⟩ HRr.out szI rfl rfl ?_; intro w3 ho3 hf3)
          go_roundg (n - (j + 1))
          case measure => omega
          case rel => exact ⟨i + 1, j + 1, dk.set i ⟨q1, q2⟩, by go_num, by go_num, by omega, Nat.le_refl _, HKp.out.keep HX.out HT.out, ho3, HF2.out.trans hf3 (fun k hk => .inl (by subst hk; rfl))⟩
      · obtain rfl : j = n := by omega
        have hltz : ¬ (j : Int) < (j : Int) := by omega
        have hKd := HKp.out
        rw [← HN.out] at hKd
        obtain ⟨hd1, hd2⟩ := hKd.done
        have hsl := fun W => HRL.out W i (by omega)
        have hsh := fun W => HRH.out W i (by omega)
        obtain ⟨w4, hcl, ho4, hf4⟩ := run_clear_own (P := Try.prog) HOr.out 24 Try.underlying24 (.agg #[.int .i64 0, .int .i64 0]) 16 infoI rfl (by decide) (fun u hu => iC_one (0, 0) u hu) i (by omega) (ad (some ⟨g, 0, none⟩) cap i 2) (cap - i) (by rcases Nat.eq_or_lt_of_le (show i ≤ cap by omega) with h | h; exact .inl (by omega); exact .inr (ad_at g cap i 2 (by omega))) (ad_some _ _ _ _) 0
        have HO4 := mkH ho4
        have HF4 := mkH (HFr.out.trans hf4 (fun k hk => .inl (by subst hk; rfl)))
        have HD := mkH (And.intro hd1 hd2)
        generalize ad (some ⟨g, 0, none⟩) cap i 2 = aq at hsl hcl
        clear hd1 hd2 hKd ho4 hf4 HRL HRH HOr HFr
        go_wp2
        go_ret
        refine ⟨by rw [← HD.out.2]; rfl, ?_, HF4⟩
        have h5 := HO4.out
        rw [Fl_take iC_len, HD.out.1] at h5
        rw [← HD.out.2]
        exact h5
end Go.Proofs.Yteaempemdolcjaa.Ny
