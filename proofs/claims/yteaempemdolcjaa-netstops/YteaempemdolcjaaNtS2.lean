/-
  The walk of NetStops.
-/
import Derived.Test.YteaempemdolcjaaNtS1
namespace Go.Proofs.Yteaempemdolcjaa.Ns2
open Go.RowKit Go.Shelf Kt Gf Nr Gk Nv Nw Nx Na Nc Nee Ng Ni Nj Nn No Np Nl Ns1
set_option linter.unusedVariables false
set_option linter.unusedSimpArgs false
set_option maxRecDepth 20000

set_option maxHeartbeats 4000000 in
theorem stops_walk (w : World) (a0 : Option Addr) (cap0 : Nat) (l0 : List Int) (hr0 : RowE w a0 l0) (hc0 : l0.length ≤ cap0) (hc0' : cap0 ≤ 9223372036854775807) (mo : Int) :
    Calls Try.prog 7 #[.slice a0 l0.length cap0, .int .i64 mo] w fun e w' => e = .returned (.bool true) ∧ Below w.heap.size w w' := by
  obtain ⟨m, hm⟩ : ∃ m, m = min l0.length 60 := ⟨_, rfl⟩
  obtain ⟨vs, hl⟩ : ∃ vs, vs = l0.take 60 := ⟨_, rfl⟩
  have hvl : vs.length = m := by rw [hl, List.length_take]; omega
  have hrl : RowE w a0 vs := by rw [hl]; exact RowE.take hr0 60
  have hm1 : (if (60 : Int) < (l0.length : Int) then 60 else (l0.length : Int)) = (m : Int) := by split <;> omega
  have hm2 : min (l0.length : Int) 60 = (m : Int) := by omega
  have hm3 : m ≤ cap0 := by omega
  have hm4 : m ≤ 60 := by omega
  obtain ⟨n0, hn0⟩ : ∃ n0, n0 = l0.length := ⟨_, rfl⟩
  rw [← hn0] at hm1 hm2 hc0 ⊢
  clear hr0 hm hl hn0
  obtain ⟨mo', hmo⟩ : ∃ mo', mo' = atM mo 70 := ⟨_, rfl⟩
  have hmb := atM_in mo (s := 70) (by omega)
  rw [← hmo] at hmb
  have HAT : Hid (∀ W, Calls Try.prog 14 #[.int .i64 mo, .int .i64 70] W fun e w' => e = .returned (.int .i64 mo') ∧ w' = W) := mkH (fun W => by
    have := at_any mo 70 (by omega) W
    rwa [← hmo] at this)
  -- the boxes of l and most, the bag
  obtain ⟨h, hh⟩ : ∃ h, h = w.heap.size := ⟨_, rfl⟩
  obtain ⟨Wb, hWb⟩ : ∃ Wb, Wb = (w.alloc (.cells #[.slice a0 m cap0] 28)).alloc (.cells #[.int .i64 mo] 3) := ⟨_, rfl⟩
  have lb : Bx Wb h #[.slice a0 m cap0] 28 := by rw [hWb, hh]; exact (Bx.new w _ _).alloc _
  have mb : Bx Wb (h + 1) #[.int .i64 mo] 3 := by rw [hWb, hh]; exact Bx.new1 w _ _ _
  have sb : Wb.heap.size = h + 2 := by rw [hWb, hh]; simp
  have bb : Below h w Wb := by rw [hWb, hh]; exact ((Below.refl _ w).alloc (Nat.le_refl _) _).alloc (by simp) _
  obtain ⟨Wc, hWc⟩ : ∃ Wc, Wc = Wb.alloc (.cells #[.slice none 0 0, .int .i64 0] 26) := ⟨_, rfl⟩
  have lc := lb.alloc (.cells #[.slice none 0 0, .int .i64 0] 26)
  have mc := mb.alloc (.cells #[.slice none 0 0, .int .i64 0] 26)
  rw [← hWc] at lc mc
  have sc : Wc.heap.size = h + 3 := by rw [hWc]; simp; omega
  have bc : Below h w Wc := by rw [hWc]; exact bb.alloc (by omega) _
  have gc : Bg (fun q => h ≤ q) Wc (h + 2) [] 0 := by rw [hWc, ← sb]; exact Bg.new _ Wb
  have hlt0 : ∀ a, a0 = some a → 0 < vs.length → a.block < h := fun a ha hp => by
    obtain ⟨b, off, e, hc⟩ := hrl hp
    obtain ⟨x, hx⟩ := some_of hp
    have := World.block_lt_of_cell? w _ (hc 0 x hx)
    rw [ha] at e
    cases e
    rw [hh]; exact this
  have hput := put_any gc a0 cap0 vs (hrl.below (by rw [← hh]; exact bc)) (fun a ha hp => ⟨by have := hlt0 a ha hp; omega, by have := hlt0 a ha hp; omega⟩) (fun k hk => by omega) (by rw [hvl]; simp; omega) (by omega) (by omega) (by omega) hc0'
  rw [List.nil_append, Int.zero_add, hvl] at hput
  have HPUT := mkH hput
  have HVL := mkH hvl
  have HRL := mkH hrl
  have HLC := mkH lc
  have HMC := mkH mc
  have HSC := mkH sc
  have HBC := mkH bc
  have HH := mkH hh
  have HW := mkH (And.intro hWb hWc)
  clear hput hvl hrl lc mc sc bc hWb hWc lb mb sb bb gc hlt0 hmo HH
  subst hh
  have hnf := fun (W : World) (x y : Array Value) => eql_func (P := Try.prog) W 51 _ _ _ (.func 39) x y Try.underlying51
  go_enter Try.func7, Try.ntmps7
  go_wp2_with fail
  rw [show ((w.alloc (.cells #[.slice a0 m cap0] 28)).alloc (.cells #[.int .i64 mo] 3)).alloc (.cells #[.slice none 0 0, .int .i64 0] 26) = Wc by rw [HW.out.2, HW.out.1]]
  clear HW
  refine HPUT.out.mono ?_
  rintro e w3 ⟨rfl, g3, f3⟩
  have hb3 : Below w.heap.size w w3 := ft_below HBC.out (Nat.le_refl _) (by omega) f3
  have l3 := Bx.ft HLC.out f3 (by decide) (by omega)
  have m3 := Bx.ft HMC.out f3 (by decide) (by omega)
  have hs3 : w.heap.size + 3 ≤ w3.heap.size := by have := HSC.out; have := f3.size; omega
  have c3 : w3.cell? ⟨w.heap.size + 1, 0, none⟩ = some (.int .i64 mo) := m3.cell 0 _ rfl
  have fz3 := m3.frozen 0
  have HL3 := mkH l3
  have HM3 := mkH m3
  have HG3 := mkH g3
  have HB3 := mkH hb3
  clear f3 g3 hb3 l3 m3 HPUT HLC HMC
  go_wp2_with (first
    | (go_at_call 14; refine (HAT.out _).mono ?_; rintro e w9 ⟨rfl, rfl⟩)
    | (go_at_call 27; refine (all_any _ _ ⟨_, rfl⟩).mono ?_; rintro e w9 ⟨rfl, rfl⟩))
  clear hnf c3 fz3
  obtain ⟨U4, hU4⟩ : ∃ U4, U4 = w9.setCell ⟨w.heap.size + 1, 0, none⟩ (.int .i64 mo') := ⟨_, rfl⟩
  obtain ⟨U5, hU5⟩ : ∃ U5, U5 = U4.alloc (.cells #[.int .i64 0] 3) := ⟨_, rfl⟩
  obtain ⟨U6, hU6⟩ : ∃ U6, U6 = U5.alloc (.cells #[.pointer (some ⟨w.heap.size + 2, 0, none⟩)] 23) := ⟨_, rfl⟩
  obtain ⟨U7, hU7⟩ : ∃ U7, U7 = U6.alloc (.cells #[.bool true] 4) := ⟨_, rfl⟩
  rw [show (((w9.setCell ⟨w.heap.size + 1, 0, none⟩ (.int .i64 mo')).alloc (.cells #[.int .i64 0] 3)).alloc (.cells #[.pointer (some ⟨w.heap.size + 1 + 1, 0, none⟩)] 23)).alloc (.cells #[.bool true] 4) = U7 by rw [hU7, hU6, hU5, hU4]]
  have s4 : U4.heap.size = w9.heap.size := by rw [hU4]; simp
  have s5 : U5.heap.size = w9.heap.size + 1 := by rw [hU5]; simp; omega
  have s6 : U6.heap.size = w9.heap.size + 2 := by rw [hU6]; simp; omega
  have s7 : U7.heap.size = w9.heap.size + 3 := by rw [hU7]; simp; omega
  have m4 : Bx U4 (w.heap.size + 1) #[.int .i64 mo'] 3 := by rw [hU4]; exact HM3.out.set 0 _
  have l4 : Bx U4 w.heap.size #[.slice a0 m cap0] 28 := by rw [hU4]; exact HL3.out.other (by simp) _
  have f4 : Fr (fun q => q = w.heap.size + 1) w9 U4 := by rw [hU4]; exact HM3.out.frset 0 _
  have g4 : Bg (fun q => w.heap.size ≤ q) U4 (w.heap.size + 2) (num 0 vs) (m : Int) := HG3.out.fr f4 (by omega) (fun q cur hq e => by
    subst hq
    have := HM3.out; unfold Bx at this; rw [this] at e; simp only [Option.some.injEq, Obj.cells.injEq] at e; exact absurd e.2.1 (by decide))
  have b45 : Below U4.heap.size U4 U5 := by rw [hU5]; exact (Below.refl _ U4).alloc (Nat.le_refl _) _
  have b56 : Below U5.heap.size U5 U6 := by rw [hU6]; exact (Below.refl _ U5).alloc (Nat.le_refl _) _
  have b67 : Below U6.heap.size U6 U7 := by rw [hU7]; exact (Below.refl _ U6).alloc (Nat.le_refl _) _
  have b47 : Below U4.heap.size U4 U7 := b45.trans ((b56.mono (by omega)).trans (b67.mono (by omega)))
  have n7 : Bx U7 w9.heap.size #[.int .i64 ((0 : Nat) : Int)] 3 := by
    have : Bx U5 w9.heap.size #[.int .i64 0] 3 := by rw [hU5, ← s4]; exact Bx.new U4 _ _
    exact (this.bel b56).bel b67
  have p7 : Bx U7 (w9.heap.size + 1) #[.pointer (some ⟨w.heap.size + 2, 0, none⟩)] 23 := by
    have : Bx U6 (w9.heap.size + 1) #[.pointer (some ⟨w.heap.size + 2, 0, none⟩)] 23 := by rw [hU6, ← s5]; exact Bx.new U5 _ _
    exact this.bel b67
  have r7 : Bx U7 (w9.heap.size + 2) #[.bool true] 4 := by rw [hU7, ← s6]; exact Bx.new U6 _ _
  have m7 := m4.bel b47
  have l7 := l4.bel b47
  have g7 := g4.below b47
  have hB4 : Below w.heap.size w U4 := HB3.out.trans (f4.below (fun q hq => by omega) (by omega))
  have hB7 : Below w.heap.size w U7 := hB4.trans (b47.mono (by omega))
  obtain ⟨ao, cap, hbx, hown, hCC⟩ := id g7
  obtain ⟨ob, hob⟩ : ∃ ob, ob = (Value.slice ao (num 0 vs).length cap).ownBlock := ⟨_, rfl⟩
  have hob1 : ∀ q, ob = some q → w.heap.size ≤ q ∧ q < U7.heap.size := fun q hq => by
    rw [hob] at hq
    exact ⟨hCC q hq, (hown.lt q hq).2⟩
  have hNL : (num 0 vs).length = m := by rw [num_len, HVL.out]
  have hgm : ∀ mm, Bg (Cm ob mm) U7 (w.heap.size + 2) (num 0 vs) (m : Int) := fun mm => ⟨ao, cap, hbx, hown, fun k hk => .inl (by rw [hob]; exact hk)⟩
  have HST : Hid (∀ mm, U7.heap.size ≤ mm → St w (w9.heap.size + 2) w9.heap.size w.heap.size (w.heap.size + 1) (w.heap.size + 2) ob a0 m cap0 mo' mm 0 U7 ∧ (0 = 0 ∨ ((0 : Nat) : Int) < mo')) := mkH (fun mm hmm => ⟨⟨r7, n7, l7, m7, ⟨_, _, hgm mm, by rw [hNL]; exact hm4, by omega, by omega, fun _ => Nat.zero_le _⟩, hB7⟩, .inl rfl⟩)
  have hA := all1_any 28 #[.pointer (some ⟨w9.heap.size + 2, 0, none⟩), .pointer (some ⟨w9.heap.size, 0, none⟩), .pointer (some ⟨w.heap.size, 0, none⟩), .pointer (some ⟨w.heap.size + 2, 0, none⟩), .pointer (some ⟨w.heap.size + 1, 0, none⟩)] (enters_of Try.func28 (by kernel_rfl) rfl)
    (fun q => q = w9.heap.size + 2 ∨ q = w9.heap.size ∨ q = w.heap.size + 2 ∨ ob = some q) (w9.heap.size + 1) g7 p7
    (fun q hq => by rcases hq with h | h | h | h; omega; omega; omega; exact (hob1 q h).2) (by rw [hNL]; omega)
    (fun mm k W => St w (w9.heap.size + 2) w9.heap.size w.heap.size (w.heap.size + 1) (w.heap.size + 2) ob a0 m cap0 mo' mm k W ∧ (k = 0 ∨ (k : Int) < mo'))
    (fun mm k W => St w (w9.heap.size + 2) w9.heap.size w.heap.size (w.heap.size + 1) (w.heap.size + 2) ob a0 m cap0 mo' mm k W ∧ (k : Int) = max mo' 1)
    (fun mm k A B row hs hg hr => ⟨st_own hs.1 hg hr (by omega), hs.2⟩)
    (fun mm k A B row hs hg hr => ⟨st_own hs.1 hg hr (by omega), hs.2⟩)
    HST.out
    (fun mm k x W hmm hmW hI hx => (stops28 hI.1 (by omega) ⟨by omega, by omega, by omega, by omega, fun q hq => (hob1 q hq).1⟩ hmW HRL.out HVL.out hm4 hm3 (x := x.2) (by
      have h1 : ((num 0 vs).map Prod.snd)[k]? = some x.2 := by rw [List.getElem?_map, hx]; rfl
      rwa [num_snd] at h1)).mono (fun e W' ⟨e1, e2, e3⟩ => by
        by_cases hlt : ((k + 1 : Nat) : Int) < mo'
        · exact .inl ⟨by rw [e1, decide_eq_true hlt], ⟨e2, .inr hlt⟩, e3⟩
        · exact .inr ⟨by rw [e1, decide_eq_false hlt], ⟨e2, by have := hI.2; omega⟩, e3⟩))
  rw [hNL] at hA
  -- how often it was asked
  have HA : Hid (Calls Try.prog 39 #[.func (.func 28) #[] #[.pointer (some ⟨w9.heap.size + 2, 0, none⟩), .pointer (some ⟨w9.heap.size, 0, none⟩), .pointer (some ⟨w.heap.size, 0, none⟩), .pointer (some ⟨w.heap.size + 2, 0, none⟩), .pointer (some ⟨w.heap.size + 1, 0, none⟩)], .pointer (some ⟨w9.heap.size + 1, 0, none⟩)] U7 fun e w' => e = .returned (.tuple #[]) ∧ ∃ k : Nat, (k : Int) = min (m : Int) (max mo' 1) ∧ Bx w' (w9.heap.size + 2) #[.bool true] 4 ∧ Bx w' w9.heap.size #[.int .i64 (k : Int)] 3 ∧ Bx w' w.heap.size #[.slice a0 m cap0] 28 ∧ Bx w' (w.heap.size + 1) #[.int .i64 mo'] 3 ∧ Below w.heap.size w w') := mkH (hA.mono (fun e w' ⟨e1, mm, hmm, hh⟩ => by
    refine ⟨e1, ?_⟩
    rcases hh with ⟨hs, hk⟩ | ⟨k, hkm, hs, hk⟩
    · exact ⟨m, by omega, hs.r, hs.n, hs.l, hs.mo, hs.bw⟩
    · exact ⟨k, by omega, hs.r, hs.n, hs.l, hs.mo, hs.bw⟩))
  clear hA HST hgm hob1 hob hCC hown hbx g7 l7 m7 r7 p7 n7 b47 b67 b56 b45 g4 f4 l4 m4 hB4 hB7 hU4 hU5 hU6 hU7 s4 s5 s6 s7 hNL
  refine HA.out.mono ?_
  rintro e w10 ⟨rfl, k, hk, x1, x2, x3, x4, x5⟩
  obtain ⟨M, hM⟩ : ∃ M, M = max mo' 1 := ⟨_, rfl⟩
  have hM1 : max mo' 1 = M := hM.symm
  have hM2 : (if mo' < 1 then 1 else mo') = M := by rw [hM]; split <;> omega
  rw [← hM] at hk
  have hk1 : min (m : Int) M = (k : Int) := hk.symm
  have hk2 : (if M < (m : Int) then M else (m : Int)) = (k : Int) := by rw [hk]; split <;> omega
  have c1' : w10.cell? ⟨w9.heap.size + 1 + 1, 0, none⟩ = some (.bool true) := x1.cell 0 _ rfl
  have c2' : w10.cell? ⟨w9.heap.size, 0, none⟩ = some (.int .i64 (k : Int)) := x2.cell 0 _ rfl
  have c3' : w10.cell? ⟨w.heap.size, 0, none⟩ = some (.slice a0 m cap0) := x3.cell 0 _ rfl
  have c4' : w10.cell? ⟨w.heap.size + 1, 0, none⟩ = some (.int .i64 mo') := x4.cell 0 _ rfl
  have HB10 := mkH x5
  have HWK := mkH (works_any w10)
  clear x1 x2 x3 x4 x5 hk hM HA
  go_wp2_with (go_at_call 24; refine HWK.out.mono ?_; rintro e w11 ⟨rfl, hb11⟩)
  go_ret
  exact ⟨rfl, HB10.out.trans (hb11.mono HB10.out.size)⟩
end Go.Proofs.Yteaempemdolcjaa.Ns2
