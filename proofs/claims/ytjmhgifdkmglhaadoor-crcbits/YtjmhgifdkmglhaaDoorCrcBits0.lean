/-
  The walk of CrcBits: a frame is made, one bit of it is turned, Next tells ErrSum.
-/
import Derived.Test.YtjmhgifdkmglhaaDoorCrcX
namespace Go.Proofs.YtjmhgifdkmglhaaDoor.Cb
open Go.RowKit Kt Cs Cw Cf Cn Cg Ck
set_option linter.unusedVariables false

set_option maxHeartbeats 1000000 in
set_option maxRecDepth 20000 in
theorem bits_walk (w : World) (hT : Tb w) (ao : Option Addr) (cap : Nat) (bs : List UInt8) (bit : Int) (hr : Row w ao bs) (hlen : bs.length ≤ cap) (hcap : cap ≤ 9223372036854775807) :
    Calls Tryd.prog 8 #[.slice ao bs.length cap, .int .i64 bit] w fun e w' => e = .returned (.bool true) ∧ Below w.heap.size w w' := by
  have hT0 := hT.size
  go_enter Tryd.func8, Tryd.ntmps8
  go_wp2_with fail
  refine (few_any w ao cap bs hr hlen hcap).mono ?_
  rintro e w1 ⟨v1, rfl, hown1, hb1⟩
  obtain ⟨bh, hbh⟩ : ∃ bh, bs.take 3000 = bh := ⟨_, rfl⟩
  have h3 : bh.length ≤ 3000 := by rw [← hbh, List.length_take]; omega
  rw [hbh] at hown1
  clear hr hbh
  obtain ⟨a1, c1, rfl, -, hc1, hr1⟩ := own_row hown1
  clear hown1
  go_wp2_with fail
  refine (frame_ok w1 a1 c1 bh (hT.below hb1 hT0) hr1 (by omega)).mono ?_
  rintro e w2 ⟨v2, rfl, hown2, hb2⟩
  have hb2 := hb1.trans (hb2.mono hb1.size)
  clear hr1 hc1
  have hfl := Cp.frame_len bh
  have HT : Hid (∀ (j : Nat) (y : UInt8), j < 12 + bh.length → (Cp.frame bh).getD j 0 ≠ y → Cp.fd ((Cp.frame bh).set j y) = (6, 0)) := fun j y hj hy => Cp.fd_turned (by omega) hj hy
  generalize Cp.frame bh = f at *
  have hown2 := own_mono hown2 hb1.size
  clear hb1
  obtain ⟨g, c2, rfl⟩ : ∃ g c2, v2 = .slice (some ⟨g, 0, none⟩) f.length c2 := by
    rw [← hfl] at hown2
    obtain ⟨ao2, cap2, rfl⟩ := own_form hown2
    rcases hown2.2 with ⟨e1, e2⟩ | ⟨g, c, cur, e1, _⟩
    · omega
    · exact ⟨g, c, e1⟩
  rw [← hfl] at hown2
  have hcc := own_cap hown2
  obtain ⟨-, hc2, hr2⟩ := Row.own hown2
  have hn12 : 12 ≤ f.length := by omega
  have hn3 : f.length ≤ 3012 := by omega
  rw [← hfl] at HT
  clear hfl h3
  obtain ⟨m1, m2, k, hk, hkk⟩ := mod_name bit (8 * f.length) (by omega)
  simp only [Int.natCast_mul] at m1 m2 hkk
  have e0 : ((8 : Nat) : Int) = 8 := rfl
  rw [e0] at m1 m2 hkk
  have t0 : ((f.length : Int) == 0) = false := by rw [beq_eq_false_iff_ne]; omega
  have t1 : ((8 : Int) * (f.length : Int) == 0) = false := by rw [beq_eq_false_iff_ne]; omega
  go_upto_region 7 with fail
  rw [hkk]
  clear hkk m1 m2 t1 e0
  obtain ⟨q, hq⟩ : ∃ q, k / 8 = q := ⟨_, rfl⟩
  obtain ⟨p, hp⟩ : ∃ p, k % 8 = p := ⟨_, rfl⟩
  have e1 : (k : Int).tdiv 8 = (q : Int) := by rw [Int.tdiv_eq_ediv_of_nonneg (by omega)]; omega
  have e2 : (k : Int).tmod 8 = (p : Int) := by rw [Int.tmod_eq_emod_of_nonneg (by omega)]; omega
  have e3 : (k : Int) / 8 = (q : Int) := by omega
  have e4 : (k : Int) % 8 = (p : Int) := by omega
  have hj : q < f.length := by omega
  have hp8 : p < 8 := by omega
  clear hq hp hk
  have hj1 : (q : Int) < (f.length : Int) := by omega
  have hj0 : (0 : Int) ≤ (q : Int) := by omega
  have hp0 : (0 : Int) ≤ (p : Int) := by omega
  have hp1 : (p : Int) < 8 := by omega
  obtain ⟨c, hc⟩ : ∃ c, f.getD q 0 = c := ⟨_, rfl⟩
  have hcell : w2.cell? ⟨g, q, none⟩ = some (.int .u8 (c.toNat : Int)) := by
    have := hown2.cellAt q (by omega)
    rw [U_at f q hj, hc] at this
    exact this
  have hfz := hown2.frozenAt q
  have hwq : IntKind.i64.wrap (q : Int) = (q : Int) := by rw [IntKind.wrap_i64]; omega
  go_region
  have ey : bits .xor .u8 (c.toNat : Int) (2 ^ p % 256) = ((Cp.flip c p).toNat : Int) := by
    have h1 : 2 ^ p < 2 ^ 8 := Nat.pow_lt_pow_right (by omega) hp8
    have h2 : (2 : Int) ^ p % 256 = ((2 ^ p : Nat) : Int) := by
      have h3 : ((2 ^ p : Nat) : Int) = (2 : Int) ^ p := by push_cast; rfl
      rw [← h3]
      exact Int.emod_eq_of_lt (Int.natCast_nonneg _) (Int.ofNat_lt.2 (show 2 ^ p < 256 from h1))
    rw [h2, u8_xor_nat _ _ (Cp.u8_lt c) h1, Cp.flip_toNat c hp8]
  rw [ey]
  have hst := hown2.stored q (.int .u8 ((Cp.flip c p).toNat : Int))
  rw [U_set] at hst
  have hown3 := hst.1.drew
  have hb3 := (hb2.grown hst.2 hb2.size (by intro k hk; cases hk; exact (hown2.lt _ rfl).1)).drew
  generalize (w2.setCell ⟨g, q, none⟩ (.int .u8 ((Cp.flip c p).toNat : Int))).drew = w3 at hown3 hb3 ⊢
  have HF : Hid (Cp.fd (f.set q (Cp.flip c p)) = (6, 0)) := HT.out q _ hj (by rw [hc]; exact Cp.flip_ne c hp8)
  have hls : (f.set q (Cp.flip c p)).length = f.length := List.length_set
  generalize f.set q (Cp.flip c p) = f2 at hown3 HF hls
  have hown4 : w3.ownsRow w.heap.size 5 1 (.slice (some ⟨g, 0, none⟩) f2.length c2) f2.length (U f2) := by rw [hls]; exact hown3
  have hN := next_err w3 (some ⟨g, 0, none⟩) f.length c2 0 0 f2 6 rfl (hT.below hb3 hT0) (Row.own hown4).2.2 (by omega) (by omega) hcc (by omega) hls.symm HF.out (by omega)
  clear hst hown2 hown3 hown4 ey HF hls hr2 hcell hfz HT hc hwq
  go_wp2_with fail
  refine hN.mono ?_
  rintro e w4 ⟨rfl, hb4⟩
  have hb4 := hb3.trans (hb4.mono hb3.size)
  clear hN
  go_wp2_with fail
  refine (works_any w4 (hT.below hb4 hT0)).mono ?_
  rintro e w5 ⟨rfl, hb5⟩
  go_wp2
  go_ret
  exact ⟨rfl, hb4.trans (hb5.mono hb4.size)⟩
end Go.Proofs.YtjmhgifdkmglhaaDoor.Cb
