/-
  Dump, of a group whose parts may be written.
-/
import Derived.Test.YtcpmaddleleblaaDoorGpDw
import Derived.Test.YtcpmaddleleblaaDoorGpO
namespace Go.Proofs.YtcpmaddleleblaaDoor.Gdu
open Go.RowKit Kt Gf Gp Gr Gk Ga Gs Gb Gst Pl Wr Gdp Gdw
set_option linter.unusedVariables false
set_option linter.unusedSimpArgs false
set_option maxRecDepth 20000

def dumpE (g : G) : Int := if 4096 < (encG g).length then 3 else 0
def dumpS (g : G) : ByteArray := if 4096 < (encG g).length then ⟨#[]⟩ else S (encG g)
theorem ns_new (W : World) (cs : Array Value) (ns : List Nat) (h : ∀ (i n : Nat), ns[i]? = some n → cs[i]? = some (Value.int .i64 (n : Int))) : Ns (W.alloc (.cells cs 3)) W.heap.size ns := ⟨cs, Bx.new W cs _, h⟩
theorem encT_len (s : ByteArray) (h : s.size ≤ 4096) : (encText s.data.toList).length ≤ 4200 := by
  unfold encText
  have := enc_len9 (n := s.size) (by omega)
  rw [List.length_append]; simp; omega
/-- What Dump has so far. -/
structure Du (w W : World) (Wb : Nat) (g0 : Array Value) (l : List UInt8) (qa : Option Addr) (qc : Nat) : Prop where
  t : Wt w.heap.size W Wb l qa qc
  b : Bx W w.heap.size g0 25
  bl : Below w.heap.size w W
  lt : w.heap.size < Wb
theorem Du.below {w W W' : World} {Wb : Nat} {g0 : Array Value} {l : List UInt8} {qa : Option Addr} {qc : Nat} (h : Du w W Wb g0 l qa qc) (hb : Below W.heap.size W W') : Du w W' Wb g0 l qa qc :=
  ⟨h.t.below hb, h.b.bel hb, h.bl.trans (hb.mono h.bl.size), h.lt⟩
theorem Du.step {w W W' : World} {Wb : Nat} {g0 : Array Value} {l l' : List UInt8} {qa qa' : Option Addr} {qc qc' : Nat} (h : Du w W Wb g0 l qa qc) (ht : Wt w.heap.size W' Wb l' qa' qc') (hF : Fr (fun k => k = Wb ∨ (Value.slice qa l.length qc).ownBlock = some k) W W') : Du w W' Wb g0 l' qa' qc' := by
  have hlt := h.lt
  refine ⟨ht, h.b.fr hF ?_, below_fr h.bl hF (fun k hk => ?_) (Nat.le_refl _), h.lt⟩
  · rintro (e | e)
    · omega
    · exact own_ne h.t.o h.b e (by decide) rfl
  · rcases hk with e | e
    · omega
    · exact (h.t.o.lt k e).1
/-- A block of another kind stays. -/
theorem Du.bx {w W W' : World} {Wb : Nat} {g0 : Array Value} {l : List UInt8} {qa : Option Addr} {qc : Nat} (h : Du w W Wb g0 l qa qc) (hF : Fr (fun k => k = Wb ∨ (Value.slice qa l.length qc).ownBlock = some k) W W') {b : Nat} {cs : Array Value} {t : TypeId} (hb : Bx W b cs t) (h1 : t ≠ 78) (h2 : t ≠ 5) : Bx W' b cs t := by
  refine hb.fr hF ?_
  rintro (e | e)
  · exact bx_ne hb h.t.b h1 e
  · exact own_ne h.t.o hb e (fun e => h2 e.symm) rfl

set_option maxHeartbeats 8000000 in
theorem Dump_ok (w : World) (g : G) (ka : Option Addr) (kc : Nat) (ma : Option Addr) (mc : Nat) (h : Gl w g ka kc ma mc) (hd : Dg g) (dE : Int) (dS : ByteArray) (hE : dumpE g = dE) (hS : dumpS g = dS) :
    Calls Tryd.prog 17 #[.agg (gC g ka kc ma mc)] w fun e w' => e = .returned (.tuple #[.string dS, .int .i64 dE]) ∧ Below w.heap.size w w' := by
  have HL := mkH h
  have HD := mkH hd
  have HE := mkH hE
  have HS := mkH hS
  clear h hd hE hS
  obtain ⟨nx, kp, mk, at'⟩ := g
  have hkl : kp.length ≤ 1024 := HD.out.kl
  have hml : mk.length ≤ 1024 := HD.out.ml
  have hnx : Nn nx := HD.out.n
  simp only [gC]
  obtain ⟨n0, hn0⟩ : ∃ n, nx.toNat = n := ⟨_, rfl⟩
  have hn1 : nx = (n0 : Int) := by rw [← hn0, nn_cast hnx]
  have hn2 : n0 ≤ 4611686018427387904 := by rw [← hn0]; exact nn_le hnx
  have HN0 := mkH hn0
  clear hn0 hnx
  subst hn1
  have HA := mkH (((Below.refl w.heap.size w).alloc (Nat.le_refl _) (.cells #[Value.int .i64 (n0 : Int), .slice ka kp.length kc, .slice ma mk.length mc, .string at'] 25)).alloc (by simp) (.cells #[Value.slice none 0 0, .int .i64 0] 78))
  have HC0 := mkH ((Bx.new w #[Value.int .i64 (n0 : Int), .slice ka kp.length kc, .slice ma mk.length mc, .string at'] 25).alloc (.cells #[Value.slice none 0 0, .int .i64 0] 78))
  have HC1 := mkH (Bx.new1 w (.cells #[Value.int .i64 (n0 : Int), .slice ka kp.length kc, .slice ma mk.length mc, .string at'] 25) #[Value.slice none 0 0, .int .i64 0] 78)
  go_enter Tryd.func17, Tryd.ntmps17
  go_upto_region 2 with fail
  generalize (w.alloc (.cells #[Value.int .i64 (n0 : Int), .slice ka kp.length kc, .slice ma mk.length mc, .string at'] 25)).alloc (.cells #[Value.slice none 0 0, .int .i64 0] 78) = w0 at *
  obtain ⟨Wb, hWb⟩ : ∃ R, w.heap.size + 1 = R := ⟨_, rfl⟩
  rw [hWb] at HC1 ⊢
  have hlt : w.heap.size < Wb := by omega
  clear hWb
  obtain ⟨g0, hg0⟩ : ∃ x, #[Value.int .i64 (n0 : Int), .slice ka kp.length kc, .slice ma mk.length mc, .string at'] = x := ⟨_, rfl⟩
  have HD0 : Hid (Du w w0 Wb g0 [] none 0) := by
    rw [← hg0]
    exact ⟨⟨HC1.out, World.ownsRow_nil _ _ _ _⟩, HC0.out, HA.out, hlt⟩
  have HG0 := mkH hg0
  clear hg0 HC0 HC1 HA
  have cells0 : ∀ W l qa qc, Du w W Wb g0 l qa qc → W.cell? ⟨w.heap.size, 0, none⟩ = some (.int .i64 (n0 : Int)) ∧ W.cell? ⟨w.heap.size, 1, none⟩ = some (.slice ka kp.length kc) ∧ W.cell? ⟨w.heap.size, 2, none⟩ = some (.slice ma mk.length mc) ∧ W.cell? ⟨w.heap.size, 3, none⟩ = some (.string at') := fun W l qa qc hD => by
    have hb := hD.b
    rw [← HG0.out] at hb
    obtain ⟨d0, d1, d2, d3, -⟩ := hb.four
    exact ⟨d0, d1, d2, d3⟩
  have HC := mkH cells0
  clear cells0
  obtain ⟨d0, d1, d2, d3⟩ := HC.out _ _ _ _ HD0.out
  have hal : Below w0.heap.size w0 (w0.alloc (.cells #[Value.int .i64 (n0 : Int), .int .i64 (kp.length : Int)] 3)) := (Below.refl _ w0).alloc (Nat.le_refl _) _
  have HD1 := mkH (HD0.out.below hal)
  have HN1 := mkH (ns_new w0 #[Value.int .i64 (n0 : Int), .int .i64 (kp.length : Int)] [n0, kp.length] (fun i n hi => by
    match i, hi with
    | 0, hi => simp at hi; subst hi; rfl
    | 1, hi => simp at hi; subst hi; rfl
    | i + 2, hi => simp at hi))
  obtain ⟨l1, hl1⟩ : ∃ x, ([] : List UInt8) ++ [n0, kp.length].flatMap enc = x := ⟨_, rfl⟩
  have hNm := nums_ok (w0.alloc (.cells #[Value.int .i64 (n0 : Int), .int .i64 (kp.length : Int)] 3)) w.heap.size Wb w0.heap.size [n0, kp.length] 2 [] none 0 HD1.out.t HN1.out (fun n hn => by simp at hn; rcases hn with rfl | rfl; exact hn2; omega) (by simp) HD1.out.bl.size (by omega) l1 hl1
  simp only [List.length_nil, List.length_cons] at hNm
  have HNm := mkH hNm
  have hl1l : l1.length ≤ 40 := by
    rw [← hl1]
    have h1 := enc_len9 hn2
    have h2 := enc_len9 (n := kp.length) (by omega)
    simp; omega
  have HL1 := mkH hl1
  clear hal HD0 HN1 hNm hl1
  go_wp2_with fail
  refine HNm.out.mono ?_
  rintro e w2 ⟨rfl, qa, qc, ht2, hf2, -⟩
  have HD2 := mkH (HD1.out.step ht2 hf2)
  clear ht2 hf2 HNm HD1 d0 d1 d2 d3
  obtain ⟨d0, d1, d2, d3⟩ := HC.out _ _ _ _ HD2.out
  go_wp2_with fail
  go_loopw [19] (fun i WW => ∃ (j : Nat) (l : List UInt8) (qa : Option Addr) (qc : Nat), j ≤ kp.length ∧ i = .int .i64 (j : Int) ∧ Hid (l = l1 ++ (kp.take j).flatMap encK) ∧ l.length ≤ 40 + 5000 * j ∧ Hid (Du w WW Wb g0 l qa qc)) (fun i _ => kp.length - (intOf i).toNat)
  case atStart => exact ⟨0, l1, qa, qc, Nat.zero_le _, rfl, by unfold Hid; simp, by omega, HD2⟩
  case round =>
    clear HD2 d0 d1 d2 d3
    obtain ⟨j, l, qa, qc, hj, rfl, HLj, hll, HDj⟩ := hrel
    obtain ⟨d0, d1, d2, d3⟩ := HC.out _ _ _ _ HDj.out
    rcases Nat.lt_or_ge j kp.length with hjl | hjl
    · obtain ⟨x, hx⟩ := some_of hjl
      have h2 : (j : Int) < (kp.length : Int) := by omega
      have hdk := HD.out.k x (List.mem_of_getElem? hx)
      obtain ⟨b, off, rfl, z0, z1, z2, z3, z4, z5⟩ := atK (HL.out.k.below HDj.out.bl) hx
      have HTk : Hid ((kp.take (j + 1)).flatMap encK = (kp.take j).flatMap encK ++ encK x) := by
        unfold Hid
        rw [take_snoc hx, List.flatMap_append]; simp
      obtain ⟨x0, x1, x2, x3, x4, x5⟩ := x
      have c0 := nn_cast hdk.a
      have c1 := nn_cast hdk.b
      have c2 := nn_cast hdk.c
      have c3 := nn_cast hdk.d
      have c4 := nn_cast hdk.e
      have b0 := nn_le hdk.a
      have b1 := nn_le hdk.b
      have b2 := nn_le hdk.c
      have b3 := nn_le hdk.d
      have b4 := nn_le hdk.e
      have b5 : x5.size ≤ 4096 := hdk.s
      have HEx : Hid (encK ⟨x0, x1, x2, x3, x4, x5⟩ = enc x0.toNat ++ (enc x1.toNat ++ (enc x2.toNat ++ (enc x3.toNat ++ (enc x4.toNat ++ (encText x5.data.toList ++ [])))))) := rfl
      simp only at z0 z1 z2 z3 z4 z5 c0 c1 c2 c3 c4 b0 b1 b2 b3 b4
      generalize x0.toNat = a0 at *
      generalize x1.toNat = a1 at *
      generalize x2.toNat = a2 at *
      generalize x3.toNat = a3 at *
      generalize x4.toNat = a4 at *
      subst c0 c1 c2 c3 c4
      clear hdk hx
      have hal : Below wr.heap.size wr ((wr.alloc (.cells #[Value.int .i64 (a0 : Int), .int .i64 (a1 : Int), .int .i64 (a2 : Int), .int .i64 (a3 : Int), .int .i64 (a4 : Int), .string x5] 61)).alloc (.cells #[Value.int .i64 (a0 : Int), .int .i64 (a1 : Int), .int .i64 (a2 : Int), .int .i64 (a3 : Int), .int .i64 (a4 : Int)] 3)) := ((Below.refl _ wr).alloc (Nat.le_refl _) _).alloc (by simp) _
      have HDa := mkH (HDj.out.below hal)
      have HBk := mkH ((Bx.new wr #[Value.int .i64 (a0 : Int), .int .i64 (a1 : Int), .int .i64 (a2 : Int), .int .i64 (a3 : Int), .int .i64 (a4 : Int), .string x5] 61).alloc (.cells #[Value.int .i64 (a0 : Int), .int .i64 (a1 : Int), .int .i64 (a2 : Int), .int .i64 (a3 : Int), .int .i64 (a4 : Int)] 3))
      have hN1 := ns_new (wr.alloc (.cells #[Value.int .i64 (a0 : Int), .int .i64 (a1 : Int), .int .i64 (a2 : Int), .int .i64 (a3 : Int), .int .i64 (a4 : Int), .string x5] 61)) #[Value.int .i64 (a0 : Int), .int .i64 (a1 : Int), .int .i64 (a2 : Int), .int .i64 (a3 : Int), .int .i64 (a4 : Int)] [a0, a1, a2, a3, a4] (fun i n hi => by
    match i, hi with
    | 0, hi => simp at hi; subst hi; rfl
    | 1, hi => simp at hi; subst hi; rfl
    | 2, hi => simp at hi; subst hi; rfl
    | 3, hi => simp at hi; subst hi; rfl
    | 4, hi => simp at hi; subst hi; rfl
    | i + 5, hi => simp at hi)
      rw [show (wr.alloc (.cells #[Value.int .i64 (a0 : Int), .int .i64 (a1 : Int), .int .i64 (a2 : Int), .int .i64 (a3 : Int), .int .i64 (a4 : Int), .string x5] 61)).heap.size = wr.heap.size + 1 by simp] at hN1
      obtain ⟨l2, hl2⟩ : ∃ x, l ++ [a0, a1, a2, a3, a4].flatMap enc = x := ⟨_, rfl⟩
      have hNm := nums_ok ((wr.alloc (.cells #[Value.int .i64 (a0 : Int), .int .i64 (a1 : Int), .int .i64 (a2 : Int), .int .i64 (a3 : Int), .int .i64 (a4 : Int), .string x5] 61)).alloc (.cells #[Value.int .i64 (a0 : Int), .int .i64 (a1 : Int), .int .i64 (a2 : Int), .int .i64 (a3 : Int), .int .i64 (a4 : Int)] 3)) w.heap.size Wb (wr.heap.size + 1) [a0, a1, a2, a3, a4] 5 l qa qc HDa.out.t hN1 (fun n hn => by simp at hn; rcases hn with rfl | rfl | rfl | rfl | rfl <;> assumption) (by simp; omega) HDa.out.bl.size (by omega) l2 hl2
      simp only [List.length_nil, List.length_cons] at hNm
      have HNm := mkH hNm
      have hl2l : l2.length ≤ l.length + 45 := by
        rw [← hl2]
        have h1 := enc_len9 b0
        have h2 := enc_len9 b1
        have h3 := enc_len9 b2
        have h4 := enc_len9 b3
        have h5 := enc_len9 b4
        simp; omega
      have HL2 := mkH hl2
      clear hal hN1 hNm hl2
      go_wp2_with fail
      refine HNm.out.mono ?_
      rintro e w3 ⟨rfl, qa3, qc3, ht3, hf3, -⟩
      have HD3 := mkH (HDa.out.step ht3 hf3)
      have HBk3 := mkH (HDa.out.bx hf3 HBk.out (by decide) (by decide))
      have k5 : w3.cell? ⟨wr.heap.size, 5, none⟩ = some (.string x5) := HBk3.out.cell 5 _ rfl
      clear ht3 hf3 HNm HDa HBk
      obtain ⟨l4, hl4⟩ : ∃ x, l2 ++ encText x5.data.toList = x := ⟨_, rfl⟩
      have hl4l : l4.length ≤ 40 + 5000 * (j + 1) := by
        rw [← hl4, List.length_append]
        have := encT_len x5 b5
        omega
      have HTx := mkH (wtext_ok w3 w.heap.size Wb x5 l2 qa3 qc3 HD3.out.t b5 (by omega) HD3.out.bl.size l4 hl4)
      have HL4 := mkH hl4
      clear hl4
      go_wp2_with fail
      refine HTx.out.mono ?_
      rintro e w4 ⟨rfl, qa4, qc4, ht4, hf4, -⟩
      have HD4 := mkH (HD3.out.step ht4 hf4)
      clear ht4 hf4 HTx
      go_wp2
      go_roundw
      case rel => exact ⟨j + 1, l4, qa4, qc4, by omega, by go_num, by unfold Hid; rw [← HL4.out, ← HL2.out, HLj.out, HTk.out, HEx.out]; simp [List.append_assoc], hl4l, HD4⟩
      case measure => simp [intOf]; omega
    · have h2 : ¬ (j : Int) < (kp.length : Int) := by omega
      obtain rfl : j = kp.length := by omega
      have hal : Below wr.heap.size wr (wr.alloc (.cells #[Value.int .i64 (mk.length : Int)] 3)) := (Below.refl _ wr).alloc (Nat.le_refl _) _
      have HDa := mkH (HDj.out.below hal)
      have hN1 := ns_new wr #[Value.int .i64 (mk.length : Int)] [mk.length] (fun i n hi => by
    match i, hi with
    | 0, hi => simp at hi; subst hi; rfl
    | i + 1, hi => simp at hi)
      obtain ⟨l2, hl2⟩ : ∃ x, l ++ [mk.length].flatMap enc = x := ⟨_, rfl⟩
      have hNm := nums_ok (wr.alloc (.cells #[Value.int .i64 (mk.length : Int)] 3)) w.heap.size Wb wr.heap.size [mk.length] 1 l qa qc HDa.out.t hN1 (fun n hn => by simp at hn; omega) (by simp; omega) HDa.out.bl.size (by omega) l2 hl2
      simp only [List.length_nil, List.length_cons] at hNm
      have HNm := mkH hNm
      have hl2l : l2.length ≤ l.length + 9 := by
        rw [← hl2]
        have h1 := enc_len9 (n := mk.length) (by omega)
        simp; omega
      have hl2b : l2.length ≤ 5200000 := by omega
      have HL2 : Hid (l2 = l1 ++ (kp.flatMap encK ++ enc mk.length)) := by
        unfold Hid
        rw [← hl2, HLj.out, List.take_of_length_le (Nat.le_refl _)]; simp
      clear hal hN1 hNm hl2 hl2l hll HDj HLj
      go_wp2_with fail
      refine HNm.out.mono ?_
      rintro e w3 ⟨rfl, qa3, qc3, ht3, hf3, -⟩
      have HD3 := mkH (HDa.out.step ht3 hf3)
      clear ht3 hf3 HNm HDa d0 d1 d2 d3
      obtain ⟨d0, d1, d2, d3⟩ := HC.out _ _ _ _ HD3.out
      go_wp2_with fail
      go_loopw [47] (fun i WW => ∃ (j : Nat) (l : List UInt8) (qa : Option Addr) (qc : Nat), j ≤ mk.length ∧ i = .int .i64 (j : Int) ∧ Hid (l = l2 ++ (mk.take j).flatMap encM) ∧ l.length ≤ 5200000 + 5000 * j ∧ Hid (Du w WW Wb g0 l qa qc)) (fun i _ => mk.length - (intOf i).toNat)
      case atStart => exact ⟨0, l2, qa3, qc3, Nat.zero_le _, rfl, by unfold Hid; simp, by omega, HD3⟩
      case round =>
        clear HD3 d0 d1 d2 d3
        obtain ⟨j, l, qa, qc, hj, rfl, HLj, hll, HDj⟩ := hrel
        obtain ⟨d0, d1, d2, d3⟩ := HC.out _ _ _ _ HDj.out
        rcases Nat.lt_or_ge j mk.length with hjl | hjl
        · obtain ⟨x, hx⟩ := some_of hjl
          have h2 : (j : Int) < (mk.length : Int) := by omega
          have hdk := HD.out.m x (List.mem_of_getElem? hx)
          obtain ⟨b, off, rfl, z0, z1, z2⟩ := atM (HL.out.m.below HDj.out.bl) hx
          have HTk : Hid ((mk.take (j + 1)).flatMap encM = (mk.take j).flatMap encM ++ encM x) := by
            unfold Hid
            rw [take_snoc hx, List.flatMap_append]; simp
          obtain ⟨x5, x0, x1⟩ := x
          have c0 := nn_cast hdk.a
          have c1 := nn_cast hdk.b
          have b0 := nn_le hdk.a
          have b1 := nn_le hdk.b
          have b5 : x5.size ≤ 4096 := hdk.s
          have HEx : Hid (encM ⟨x5, x0, x1⟩ = encText x5.data.toList ++ (enc x0.toNat ++ (enc x1.toNat ++ []))) := rfl
          simp only at z0 z1 z2 c0 c1 b0 b1
          generalize x0.toNat = a0 at *
          generalize x1.toNat = a1 at *
          subst c0 c1
          clear hdk hx
          have hal : Below wr.heap.size wr (wr.alloc (.cells #[Value.string x5, .int .i64 (a0 : Int), .int .i64 (a1 : Int)] 70)) := (Below.refl _ wr).alloc (Nat.le_refl _) _
          have HDa := mkH (HDj.out.below hal)
          have HBk := mkH (Bx.new wr #[Value.string x5, .int .i64 (a0 : Int), .int .i64 (a1 : Int)] 70)
          obtain ⟨l4, hl4⟩ : ∃ x, l ++ encText x5.data.toList = x := ⟨_, rfl⟩
          have hl4l : l4.length ≤ l.length + 4200 := by
            rw [← hl4, List.length_append]
            have := encT_len x5 b5
            omega
          have HTx := mkH (wtext_ok (wr.alloc (.cells #[Value.string x5, .int .i64 (a0 : Int), .int .i64 (a1 : Int)] 70)) w.heap.size Wb x5 l qa qc HDa.out.t b5 (by omega) HDa.out.bl.size l4 hl4)
          have HL4 := mkH hl4
          clear hal hl4
          go_wp2_with fail
          refine HTx.out.mono ?_
          rintro e w4 ⟨rfl, qa4, qc4, ht4, hf4, -⟩
          have HD4 := mkH (HDa.out.step ht4 hf4)
          have HBk4 := mkH (HDa.out.bx hf4 HBk.out (by decide) (by decide))
          have k1 : w4.cell? ⟨wr.heap.size, 1, none⟩ = some (.int .i64 (a0 : Int)) := HBk4.out.cell 1 _ rfl
          have k2 : w4.cell? ⟨wr.heap.size, 2, none⟩ = some (.int .i64 (a1 : Int)) := HBk4.out.cell 2 _ rfl
          clear ht4 hf4 HTx HDa HBk
          have hal : Below w4.heap.size w4 (w4.alloc (.cells #[Value.int .i64 (a0 : Int), .int .i64 (a1 : Int)] 3)) := (Below.refl _ w4).alloc (Nat.le_refl _) _
          have HDb := mkH (HD4.out.below hal)
          have hN1 := ns_new w4 #[Value.int .i64 (a0 : Int), .int .i64 (a1 : Int)] [a0, a1] (fun i n hi => by
    match i, hi with
    | 0, hi => simp at hi; subst hi; rfl
    | 1, hi => simp at hi; subst hi; rfl
    | i + 2, hi => simp at hi)
          obtain ⟨l6, hl6⟩ : ∃ x, l4 ++ [a0, a1].flatMap enc = x := ⟨_, rfl⟩
          have hNm := nums_ok (w4.alloc (.cells #[Value.int .i64 (a0 : Int), .int .i64 (a1 : Int)] 3)) w.heap.size Wb w4.heap.size [a0, a1] 2 l4 qa4 qc4 HDb.out.t hN1 (fun n hn => by simp at hn; rcases hn with rfl | rfl <;> assumption) (by simp; omega) HDb.out.bl.size (by omega) l6 hl6
          simp only [List.length_nil, List.length_cons] at hNm
          have HNm := mkH hNm
          have hl6l : l6.length ≤ 5200000 + 5000 * (j + 1) := by
            rw [← hl6]
            have h1 := enc_len9 b0
            have h2 := enc_len9 b1
            simp; omega
          have HL6 := mkH hl6
          clear hal hN1 hNm hl6
          go_wp2_with fail
          refine HNm.out.mono ?_
          rintro e w5 ⟨rfl, qa5, qc5, ht5, hf5, -⟩
          have HD5 := mkH (HDb.out.step ht5 hf5)
          clear ht5 hf5 HNm HDb
          go_wp2
          go_roundw
          case rel => exact ⟨j + 1, l6, qa5, qc5, by omega, by go_num, by unfold Hid; rw [← HL6.out, ← HL4.out, HLj.out, HTk.out, HEx.out]; simp [List.append_assoc], hl6l, HD5⟩
          case measure => simp [intOf]; omega
        · have h2 : ¬ (j : Int) < (mk.length : Int) := by omega
          obtain rfl : j = mk.length := by omega
          have b5 : at'.size ≤ 4096 := HD.out.s
          obtain ⟨l4, hl4⟩ : ∃ x, l ++ encText at'.data.toList = x := ⟨_, rfl⟩
          have hl4l : l4.length ≤ 20000000 := by
            rw [← hl4, List.length_append]
            have := encT_len at' b5
            omega
          have HTx := mkH (wtext_ok wr w.heap.size Wb at' l qa qc HDj.out.t b5 (by omega) HDj.out.bl.size l4 hl4)
          have HL4 : Hid (encG ⟨(n0 : Int), kp, mk, at'⟩ = l4) := by
            unfold Hid encG
            rw [← hl4, HLj.out, HL2.out, ← HL1.out, List.take_of_length_le (Nat.le_refl _)]
            simp [List.append_assoc]
          clear hl4
          go_wp2_with fail
          refine HTx.out.mono ?_
          rintro e w4 ⟨rfl, qa4, qc4, ht4, hf4, -⟩
          have HD4 := mkH (HDj.out.step ht4 hf4)
          clear ht4 hf4 HTx HDj
          have e0 : w4.cell? ⟨Wb, 0, none⟩ = some (.slice qa4 l4.length qc4) := HD4.out.t.b.cell 0 _ rfl
          have e1 : w4.cell? ⟨Wb, 1, none⟩ = some (.int .i64 0) := HD4.out.t.b.cell 1 _ rfl
          have f1 := HD4.out.t.b.frozen 1
          by_cases hq : 4096 < l4.length
          · have hq1 : (4096 : Int) < (l4.length : Int) := by omega
            have hq2 : decide ((4096 : Int) < (l4.length : Int)) = true := by simpa using hq1
            have e3 : dE = 3 := by rw [← HE.out]; unfold dumpE; rw [HL4.out, if_pos hq]
            have e4 : dS = ⟨#[]⟩ := by rw [← HS.out]; unfold dumpS; rw [HL4.out, if_pos hq]
            subst e3 e4
            go_upto_region 20 with fail
            go_quiet (fail)
            go_wp2
            have hb9 := below_fr HD4.out.bl (HD4.out.t.b.frset 1 (.int .i64 3)) (fun k hk => by have := HD4.out.lt; omega) (Nat.le_refl _)
            go_ret2
            exact ⟨rfl, ⟨hb9.os, hb9.tape, hb9.output, hb9.size, hb9.block⟩⟩
          · have hq1 : ¬ (4096 : Int) < (l4.length : Int) := by omega
            have hq2 : decide ((4096 : Int) < (l4.length : Int)) = false := by simpa using hq1
            have e3 : dE = 0 := by rw [← HE.out]; unfold dumpE; rw [HL4.out, if_neg hq]
            have e4 : dS = S l4 := by rw [← HS.out]; unfold dumpS; rw [HL4.out, if_neg hq]
            subst e3 e4
            have hcv : (convert 76 9 (.slice qa4 l4.length qc4)).run Tryd.prog w4 = .ok (.string (S l4)) w4 := run_string Tryd.underlying76 Tryd.underlying5 Tryd.underlying9 (Row.own HD4.out.t.o).2.2 qc4
            go_wp2
            go_ret2
            exact ⟨rfl, HD4.out.bl⟩
end Go.Proofs.YtcpmaddleleblaaDoor.Gdu
