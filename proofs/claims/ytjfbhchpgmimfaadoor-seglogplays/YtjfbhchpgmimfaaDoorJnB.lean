/-
  The document's reader of a number, at what a number's bytes are.
  The document's Parse: a segment's bytes.
  The document's log in memory: its disks, its row of pointers; 'all' of a disk.
  The document's log: Base, Len, Safe, Records.
  The document's log: Safe, Records.
  The document's log: New, Sync, Crash, Drop.
  The document's log: Append.
  The document's log: Restart.
  A log and the document's one, side by side, apart from memory that stays; a log's copy.
  The walk of 'does' of layer 7.
-/
import Derived.Test.YtjfbhchpgmimfaaDoorSgC
import Derived.Test.YtjfbhchpgmimfaaDoorSgK
import Derived.Test.YtjfbhchpgmimfaaDoorJnA
import Derived.Deep.LoopGhost
import Derived.Test.YtjfbhchpgmimfaaDoorSgV
import Derived.Test.YtjfbhchpgmimfaaDoorSgX
namespace Go.Proofs.YtjfbhchpgmimfaaDoor.Sra
open Go.RowKit Kt Cs Pl
set_option linter.unusedVariables false
set_option maxRecDepth 20000

/-- The bytes of a number up to a million: at most three. -/
theorem enc_three {n : Nat} (hn : n ≤ 1000000) : ∃ k : Nat, k < 3 ∧ (enc n).length = k + 1 ∧ n < 128 ^ (k + 1) ∧ (∀ i, i < k → 128 ^ (i + 1) ≤ n ∧ ((enc n).getD i 0).toNat = n / 128 ^ i % 128 + 128) ∧ ((enc n).getD k 0).toNat = n / 128 ^ k ∧ n / 128 ^ k < 128 ∧ (0 < k → 0 < n / 128 ^ k) := by
  by_cases h1 : n < 128
  · refine ⟨0, by omega, by simp [enc_lt h1], by omega, fun i hi => by omega, ?_, by omega, by omega⟩
    simp [enc_lt h1]; omega
  · by_cases h2 : n / 128 < 128
    · have e : enc n = [UInt8.ofNat (n % 128 + 128), UInt8.ofNat (n / 128)] := by rw [enc_ge (by omega), enc_lt h2]
      refine ⟨1, by omega, by simp [e], by omega, fun i hi => ?_, ?_, by omega, by omega⟩
      · obtain rfl : i = 0 := by omega
        rw [e]; simp; omega
      · rw [e]; simp; omega
    · have e : enc n = [UInt8.ofNat (n % 128 + 128), UInt8.ofNat (n / 128 % 128 + 128), UInt8.ofNat (n / 128 / 128)] := by rw [enc_ge (by omega), enc_ge (by omega), enc_lt (by omega)]
      refine ⟨2, by omega, by simp [e], by omega, fun i hi => ?_, ?_, by omega, by omega⟩
      · obtain rfl | rfl : i = 0 ∨ i = 1 := by omega
        · rw [e]; simp; omega
        · rw [e]; simp; omega
      · rw [e]; simp [Nat.div_div_eq_div_mul]; omega
set_option maxHeartbeats 1000000 in
theorem refReadNum_enc (w : World) (ao : Option Addr) (cap n : Nat) (hn : n ≤ 1000000) (hr : Row w ao (enc n)) :
    Calls Tryd.prog 74 #[.slice ao (enc n).length cap] w fun e w' => e = .returned (.tuple #[.int .i64 (n : Int), .int .i64 ((enc n).length : Nat), .int .i64 0]) ∧ w' = w := by
  obtain ⟨k, hk, hlen, hlt, hmid, hlast, hl128, hpos⟩ := enc_three hn
  obtain ⟨b, off, rfl, hc⟩ := hr (by omega)
  rw [hlen] at hc ⊢
  have HM := mkH hmid
  have HC := mkH hc
  have HL := mkH hlast
  clear hmid hc hlast hr
  go_enter Tryd.func74, Tryd.ntmps74
  go_wp2_with fail
  go_loopw [5, 6, 7] (fun nv wv iv W => (iv = .int .i64 0 ∧ nv = .int .i64 0 ∧ wv = .int .i64 1 ∧ w = W) ∨ (1 ≤ k ∧ iv = .int .i64 1 ∧ ∃ A : Nat, nv = .int .i64 A ∧ Hid (A = n % 128) ∧ wv = .int .i64 128 ∧ w = W) ∨ (2 ≤ k ∧ iv = .int .i64 2 ∧ ∃ A : Nat, nv = .int .i64 A ∧ Hid (A = n % 16384) ∧ wv = .int .i64 16384 ∧ w = W)) (fun _ _ iv _ => 3 - (intOf iv).toNat)
  case atStart => exact .inl ⟨rfl, rfl, rfl, rfl⟩
  case round =>
    rcases hrel with ⟨rfl, rfl, rfl, hw⟩ | ⟨hk1, rfl, A, rfl, HA, rfl, hw⟩ | ⟨hk1, rfl, A, rfl, HA, rfl, hw⟩
    · subst hw
      have hcell := HC.out 0 (by omega)
      rw [Nat.add_zero] at hcell
      obtain ⟨c, hcc⟩ : ∃ c, ((enc n).getD 0 0).toNat = c := ⟨_, rfl⟩
      rw [hcc] at hcell
      by_cases hik : 0 < k
      · obtain ⟨hge, hb⟩ := HM.out 0 hik
        rw [hcc] at hb
        obtain ⟨d, hd⟩ : ∃ d, d = n / 1 % 128 := ⟨_, rfl⟩
        have hcd : c = d + 128 := by rw [hb, hd]
        have hd1 : d < 128 := by omega
        have tm : (c : Int).tmod 128 = (d : Int) := by rw [Int.tmod_eq_emod_of_nonneg (by omega)]; omega
        have hnew : d = n % 128 := by omega
        have HN := mkH hnew
        have hc0 : ¬ c = 0 := by omega
        have hc1 : ¬ c < 128 := by omega
        have hc2 : decide (c < 128) = false := by simp; omega
        clear hb hcc hge hnew hd
        by_cases hd0 : d = 0
        · subst hd0
          go_wp2_with fail
          exact ⟨.inr (.inl ⟨by omega, by go_num, 0, by go_num, by have := HN.out; unfold Hid; omega, by go_num, trivial⟩), by simp [intOf]⟩
        · have hd2 : 0 < d := by omega
          go_wp2_with fail
          exact ⟨.inr (.inl ⟨by omega, by go_num, d, by go_num, by have := HN.out; unfold Hid; omega, by go_num, trivial⟩), by simp [intOf]⟩
      · obtain rfl : k = 0 := by omega
        have hb := HL.out
        rw [hcc] at hb
        have hc1 : c < 128 := by rw [hb]; exact hl128
        have tm : (c : Int).tmod 128 = (c : Int) := by rw [Int.tmod_eq_emod_of_nonneg (by omega)]; omega
        have hnew : c = n := by omega
        have HN := mkH hnew
        clear hb hcc hnew
        by_cases hd0 : c = 0
        · subst hd0
          go_wp2
          go_ret3
          exact ⟨by rw [← HN.out]; simp, rfl⟩
        · have hd2 : 0 < c := by omega
          go_wp2
          go_ret3
          exact ⟨by rw [← HN.out]; simp, rfl⟩
    · subst hw
      have hcell := HC.out 1 (by omega)
      obtain ⟨c, hcc⟩ : ∃ c, ((enc n).getD 1 0).toNat = c := ⟨_, rfl⟩
      rw [hcc] at hcell
      have hA : A < 128 := by have := HA.out; omega
      by_cases hik : 1 < k
      · obtain ⟨hge, hb⟩ := HM.out 1 hik
        rw [hcc] at hb
        obtain ⟨d, hd⟩ : ∃ d, d = n / 128 % 128 := ⟨_, rfl⟩
        have hcd : c = d + 128 := by rw [hb, hd]
        have hd1 : d < 128 := by omega
        have tm : (c : Int).tmod 128 = (d : Int) := by rw [Int.tmod_eq_emod_of_nonneg (by omega)]; omega
        have hnew : A + d * 128 = n % 16384 := by have := HA.out; omega
        have HN := mkH hnew
        have hc0 : ¬ c = 0 := by omega
        have hc1 : ¬ c < 128 := by omega
        have hc2 : decide (c < 128) = false := by simp; omega
        clear hb hcc hge hnew hd
        by_cases hd0 : d = 0
        · subst hd0
          go_wp2_with fail
          exact ⟨.inr (.inr ⟨by omega, by go_num, A, by go_num, by have := HN.out; unfold Hid; omega, by go_num, trivial⟩), by simp [intOf]⟩
        · have hd2 : 0 < d := by omega
          go_wp2_with fail
          exact ⟨.inr (.inr ⟨by omega, by go_num, A + d * 128, by go_num, by have := HN.out; unfold Hid; omega, by go_num, trivial⟩), by simp [intOf]⟩
      · obtain rfl : k = 1 := by omega
        have hb := HL.out
        rw [hcc] at hb
        have hc1 : c < 128 := by rw [hb]; exact hl128
        have tm : (c : Int).tmod 128 = (c : Int) := by rw [Int.tmod_eq_emod_of_nonneg (by omega)]; omega
        have hnew : A + c * 128 = n := by have := HA.out; omega
        have HN := mkH hnew
        have hps : 0 < c := by rw [hb]; exact hpos (by omega)
        clear hb hcc hnew
        have hd0 : ¬ c = 0 := by omega
        go_wp2
        go_ret3
        exact ⟨by rw [← HN.out]; simp, rfl⟩
    · subst hw
      have hcell := HC.out 2 (by omega)
      obtain ⟨c, hcc⟩ : ∃ c, ((enc n).getD 2 0).toNat = c := ⟨_, rfl⟩
      rw [hcc] at hcell
      have hA : A < 16384 := by have := HA.out; omega
      · obtain rfl : k = 2 := by omega
        have hb := HL.out
        rw [hcc] at hb
        have hc1 : c < 128 := by rw [hb]; exact hl128
        have tm : (c : Int).tmod 128 = (c : Int) := by rw [Int.tmod_eq_emod_of_nonneg (by omega)]; omega
        have hnew : A + c * 16384 = n := by have := HA.out; omega
        have HN := mkH hnew
        have hps : 0 < c := by rw [hb]; exact hpos (by omega)
        clear hb hcc hnew
        have hd0 : ¬ c = 0 := by omega
        go_wp2
        go_ret3
        exact ⟨by rw [← HN.out]; simp, rfl⟩
end Go.Proofs.YtjfbhchpgmimfaaDoor.Sra

namespace Go.Proofs.YtjfbhchpgmimfaaDoor.Srb
open Go.RowKit Kt Cs Cf Cv Ck Ca Dk Dp Da Db Dc Dd De Sq Sr Sa Sb Sc Se Sf Sk Pl Sra
open Cr hiding own_below
set_option linter.unusedVariables false
set_option maxRecDepth 20000

set_option maxHeartbeats 1000000 in
theorem parse_none (w : World) (ao : Option Addr) (cap : Nat) (t : List UInt8) (hr : Row w ao t) (hl : t.length ≤ 1000000) (hc : t.length ≤ cap) (hcap : cap ≤ 9223372036854775807) (ht : (Cp.fd t).1 ≠ 0) :
    Calls Tryd.prog 45 #[.slice ao t.length cap] w fun e w' => e = .returned (.tuple #[.int .i64 (-1), .slice none 0 0, .int .i64 0]) ∧ Below w.heap.size w w' := by
  have hnx := refNext_all w ao cap 0 t hr hl hc hcap (Nat.zero_le _)
  rw [List.drop_zero] at hnx
  have HNX := mkH hnx
  have HT := mkH ht
  clear hnx hr ht
  go_enter Tryd.func45, Tryd.ntmps45
  go_wp2_with fail
  go_loopw [5, 6, 7] (fun rv bv av W => rv = .slice none 0 0 ∧ bv = .int .i64 (-1) ∧ av = .int .i64 0 ∧ w = W) (fun _ _ _ _ => 0)
  case atStart => exact ⟨rfl, rfl, rfl, rfl⟩
  case round =>
    obtain ⟨rfl, rfl, rfl, hw⟩ := hrel
    subst hw
    obtain ⟨N, hN⟩ : ∃ N, t.length = N := ⟨_, rfl⟩
    rw [hN] at HNX hl hc ⊢
    obtain ⟨E, hE⟩ : ∃ E, (Cp.fd t).1 = E := ⟨_, rfl⟩
    have hE0 : ¬ E = 0 := by rw [← hE]; exact HT.out
    have HE := mkH hE
    clear hE hN
    by_cases h0 : N = 0
    · subst h0
      go_wp2
      go_ret3
      exact ⟨rfl, Below.refl _ _⟩
    · have h1 : 0 < N := by omega
      go_wp2_with fail
      refine HNX.out.mono ?_
      rintro e w1 ⟨hb, ⟨-, rfl⟩ | ⟨x, -⟩⟩
      · rw [HE.out]
        have HB := mkH hb
        clear hb
        go_wp2
        go_ret3
        exact ⟨rfl, HB.out⟩
      · exact absurd x HT.out

theorem off_len (l : List (List UInt8)) : ∀ j, j ≤ l.length → 12 * j ≤ off l j
  | 0, _ => by omega
  | j + 1, h => by have := off_len l j (by omega); rw [off_succ (by omega)]; omega
/-- What Parse has behind the first j frames. -/
structure Pj (w : World) (rs : List (List UInt8)) (j : Nat) (W : World) (a : Option Addr) (c : Nat) (lb : List Bx) : Prop where
  ol : Ol w.heap.size W (.slice a j c) lb
  recs : lb.map (·.bs) = rs.take j
  below : Below w.heap.size w W
theorem Pj.len {w : World} {rs : List (List UInt8)} {j : Nat} {W : World} {a : Option Addr} {c : Nat} {lb : List Bx} (h : Pj w rs j W a c lb) (hj : j ≤ rs.length) : lb.length = j := by
  have := congrArg List.length h.recs
  rw [List.length_map, List.length_take] at this
  omega

set_option maxHeartbeats 4000000 in
theorem parse_any (w : World) (ao : Option Addr) (cap n : Nat) (rs : List (List UInt8)) (t : List UInt8) (hr : Row w ao (fcat (enc n :: rs) ++ t)) (hl : (fcat (enc n :: rs) ++ t).length ≤ 1000000) (hc : (fcat (enc n :: rs) ++ t).length ≤ cap) (hcap : cap ≤ 9223372036854775807) (hn : n ≤ 1000000) (hrs : ∀ x ∈ rs, x.length ≤ 400) (ht : (Cp.fd t).1 ≠ 0) :
    Calls Tryd.prog 45 #[.slice ao (fcat (enc n :: rs) ++ t).length cap] w fun e w' => ∃ a c lb, e = .returned (.tuple #[.int .i64 (n : Int), .slice a rs.length c, .int .i64 ((fcat (enc n :: rs)).length : Nat)]) ∧ Pj w rs rs.length w' a c lb := by
  have hall : ∀ x ∈ enc n :: rs, x.length ≤ 65536 := fun x hx => by
    rcases List.mem_cons.1 hx with rfl | hx
    · have := enc_len9 (n := n) (by omega); omega
    · have := hrs x hx; omega
  have hnx := fun W (x : Below w.heap.size w W) k hk => refNext_all W ao cap k (fcat (enc n :: rs) ++ t) (hr.below x) hl hc hcap hk
  obtain ⟨N, hN⟩ : ∃ N, (fcat (enc n :: rs) ++ t).length = N := ⟨_, rfl⟩
  have hNt : N = (fcat (enc n :: rs)).length + t.length := by rw [← hN, List.length_append]
  have hofl : ∀ j, j ≤ rs.length + 1 → off (enc n :: rs) j ≤ (fcat (enc n :: rs)).length := fun j hj => by
    rw [fcat_split (enc n :: rs) j, List.length_append]; unfold off; omega
  have hend : off (enc n :: rs) (rs.length + 1) = (fcat (enc n :: rs)).length := off_all (enc n :: rs)
  rw [hN] at hl hc hnx ⊢
  have HNX := mkH hnx
  have HALL := mkH hall
  have HOFL := mkH hofl
  have HT := mkH ht
  have HEND := mkH hend
  have HNT := mkH hNt
  clear hnx hall hr ht hrs hofl hend hNt hN
  go_enter Tryd.func45, Tryd.ntmps45
  go_wp2_with fail
  go_loopw [5, 6, 7] (fun rv bv av W => (rv = .slice none 0 0 ∧ bv = .int .i64 (-1) ∧ av = .int .i64 0 ∧ w = W) ∨ (∃ j a c lb, j ≤ rs.length ∧ rv = .slice a j c ∧ bv = .int .i64 (n : Int) ∧ av = .int .i64 ((off (enc n :: rs) (j + 1) : Nat) : Int) ∧ Hid (Pj w rs j W a c lb))) (fun _ _ av _ => N + 1 - (intOf av).toNat)
  case atStart => exact .inl ⟨rfl, rfl, rfl, rfl⟩
  case round =>
    rcases hrel with ⟨rfl, rfl, rfl, hw⟩ | ⟨j, a, c, lb, hj, rfl, rfl, rfl, HP⟩
    · subst hw
      have h1 := off_succ (l := enc n :: rs) (i := 0) (by simp)
      have hx0 : (enc n :: rs).getD 0 [] = enc n := rfl
      rw [hx0, off_zero] at h1
      simp only [Nat.zero_add] at h1
      have h2 := HOFL.out 1 (by omega)
      have hN0 : 0 < N := by have := HNT.out; omega
      have hfd := fd_off HALL.out t (i := 0) (by simp)
      have hbd := body_off (l := enc n :: rs) t (i := 0) (by simp)
      rw [hx0, off_zero] at hfd hbd
      have hnx := HNX.out w (Below.refl _ _) 0 (Nat.zero_le _)
      rw [hfd, hbd] at hnx
      simp only [Nat.zero_add] at hnx
      have HN1 := mkH hnx
      have hle : (enc n).length ≤ 9 := enc_len9 (n := n) (by omega)
      obtain ⟨el, hel⟩ : ∃ el, (enc n).length = el := ⟨_, rfl⟩
      have HEL := mkH hel
      have H1 := mkH h1
      clear hnx hfd hbd h1 h2
      go_wp2_with fail
      refine HN1.out.mono ?_
      rintro e w1 ⟨hb, ⟨x, -⟩ | ⟨-, v, rfl, hown⟩⟩
      · exact absurd rfl x
      · obtain ⟨va, vc, rfl⟩ := own_form hown
        have hrow := (Row.own hown).2.2
        have hrn := refReadNum_enc w1 va vc n hn hrow
        rw [hel] at hrn ⊢
        have HRN := mkH hrn
        have HB := mkH hb
        rw [hel] at hle
        clear hrn hrow hown hb hel HN1
        go_wp2_with fail
        refine HRN.out.mono ?_
        rintro e w2 ⟨rfl, hw⟩
        have hw2 := hw.symm
        subst hw2
        clear hw HRN
        go_wp2_with fail
        have hH1 := H1.out
        rw [HEL.out] at hH1
        have h2 := HOFL.out 1 (by omega)
        have h3 := HNT.out
        refine ⟨.inr ⟨0, none, 0, [], Nat.zero_le _, rfl, rfl, ?_, ⟨Ol.nil _ _, rfl, HB.out⟩⟩, ?_⟩
        · simp only [Nat.zero_add]; rw [hH1]; go_num
        · simp [intOf]; omega
    · obtain ⟨O, hO⟩ : ∃ O, off (enc n :: rs) (j + 1) = O := ⟨_, rfl⟩
      rw [hO]
      have hO1 : O ≤ N := by have := HOFL.out (j + 1) (by omega); have := HNT.out; omega
      have hO2 : 0 < O := by
        rw [← hO, off_succ (by simp; omega)]; omega
      have HOO := mkH hO
      clear hO
      have hnx := HNX.out wr HP.out.below O hO1
      by_cases hjl : j = rs.length
      · subst hjl
        have hOe : O = (fcat (enc n :: rs)).length := by rw [← HOO.out, HEND.out]
        have hfd : Cp.fd ((fcat (enc n :: rs) ++ t).drop O) = Cp.fd t := by rw [hOe, List.drop_left]
        rw [hfd] at hnx
        have HN1 := mkH hnx
        have HOE := mkH hOe
        clear hnx hfd hOe
        by_cases ht0 : O = N
        · subst ht0
          go_wp2
          go_ret3
          exact ⟨a, c, lb, by rw [← HOE.out]; rfl, HP.out⟩
        · have ht1 : O < N := by omega
          have hE0 : ¬ (Cp.fd t).1 = 0 := HT.out
          obtain ⟨E, hE⟩ : ∃ E, (Cp.fd t).1 = E := ⟨_, rfl⟩
          rw [hE] at hE0
          have HE := mkH hE
          clear hE
          go_wp2_with fail
          refine HN1.out.mono ?_
          rintro e w1 ⟨hb, ⟨-, rfl⟩ | ⟨x, -⟩⟩
          · rw [HE.out]
            have HP1 : Hid (Pj w rs rs.length w1 a c lb) := ⟨HP.out.ol.below hb, HP.out.recs, HP.out.below.trans (hb.mono HP.out.below.size)⟩
            clear hb
            go_wp2
            go_ret3
            exact ⟨a, c, lb, by rw [← HOE.out]; rfl, HP1.out⟩
          · exact absurd x HT.out
      · have hjr : j < rs.length := by omega
        have hfd := fd_off HALL.out t (i := j + 1) (by simp; omega)
        have hbd := body_off (l := enc n :: rs) t (i := j + 1) (by simp; omega)
        have hsu := off_succ (l := enc n :: rs) (i := j + 1) (by simp; omega)
        obtain ⟨x, hx⟩ : ∃ x, (enc n :: rs).getD (j + 1) [] = x := ⟨_, rfl⟩
        have hxr : rs[j]? = some x := by
          rw [← hx]; simp [List.getElem?_eq_getElem hjr]
        rw [hx, HOO.out] at hfd hbd hsu
        rw [hfd, hbd] at hnx
        simp only at hnx
        have h2 := HOFL.out (j + 1 + 1) (by omega)
        have h3 := HNT.out
        obtain ⟨xl, hxl⟩ : ∃ xl, x.length = xl := ⟨_, rfl⟩
        rw [hxl] at hnx hsu
        have hON : O < N := by omega
        have hOx : O + 12 + xl ≤ N := by omega
        have hwr : (O : Int) + 12 + (xl : Int) = ((O + 12 + xl : Nat) : Int) := by omega
        have HN1 := mkH hnx
        have HSU := mkH hsu
        have HXR := mkH hxr
        have HXL := mkH hxl
        have hO3 : ¬ O = 0 := by omega
        have hO4 : ((O : Int) == 0) = false := by simp; omega
        have hj6 : j ≤ 1000000 := by have := HNT.out; have := off_len (enc n :: rs) (j + 1) (by simp; omega); have := HOO.out; omega
        clear hnx hfd hbd hsu hxr h2 h3 hx hxl hwr
        go_wp2_with fail
        refine HN1.out.mono ?_
        rintro e w1 ⟨hb, ⟨y, -⟩ | ⟨-, v, rfl, hown⟩⟩
        · exact absurd rfl y
        · obtain ⟨va, vc, rfl⟩ := own_form hown
          have hrow := (Row.own hown).2.2
          have hlo : ∀ b off, va = some ⟨b, off, none⟩ → wr.heap.size ≤ b := fun b off e => by subst e; exact (own_blk hown rfl).2
          have hol1 := HP.out.ol.below hb
          have hll := HP.out.len hj
          have how := hol1.own
          rw [hll] at how
          have HOW := mkH how
          have HOL1 := mkH hol1
          have HROW := mkH hrow
          have HLO := mkH hlo
          have HB1 := mkH (HP.out.below.trans (hb.mono HP.out.below.size))
          have hs1 := HB1.out.size
          have HBO := mkH (fun g (hg : (Value.slice a j c).ownBlock = some g) => own_blk HP.out.ol.own hg)
          have HLL := mkH hll
          have HSW := mkH HP.out.below.size
          have HRC := mkH HP.out.recs
          clear hown hrow hlo hol1 how hb hll HN1 HP
          go_wp2_with (at_builtin; refine (wpList_append_own_src_at _ rfl (.tmp 47) (.tmp 49) 38 38 rfl w.heap.size 30 (.slice none 0 0) 1 24 Tryd.underlying38 infoB rfl (by decide) _ _ _ rfl (own_below HOW.out ((Below.refl _ _).alloc (Nat.le_refl _) _)) _ 1 [.slice va xl vc] rfl (src_val Tryd.underlying38 _ _ rfl) ?h63 ?hby ?hbs ?_))
          case h63 => unfold maxLen; omega
          case hby => omega
          case hbs => simp; omega
          intro v7 w7 hown7 hgrow7 hblk7
          obtain ⟨a7, c7, rfl⟩ := own_form hown7
          have hfr : Fr (fun q => (Value.slice a j c).ownBlock = some q) w1 w7 := ((Fr.refl _ _).alloc _).trans (fr_grown hgrow7) (fun i hi => .inl hi)
          have hb7 : (Value.slice a7 (j + 1) c7).ownBlock = (Value.slice a j c).ownBlock ∨ ∃ q, (Value.slice a7 (j + 1) c7).ownBlock = some q ∧ w1.heap.size ≤ q := by
            rcases hblk7 with y | y
            · exact .inl y
            · exact .inr ⟨_, y, by simp⟩
          have hol7 : Ol w.heap.size w7 (.slice a7 (j + 1) c7) (lb ++ [⟨va, vc, x⟩]) := Ol.snoc HOL1.out HROW.out (fun b off e h0 => by
            have h1 := HLO.out b off e
            have h2 := HSW.out
            refine ⟨by omega, fun hg => ?_⟩
            have := (HBO.out b hg).1
            omega) (by rw [HLL.out]; simp only [HXL.out]; exact hown7) hfr hb7
          have hbl7 : Below w.heap.size w w7 := HB1.out.trans (hfr.below (fun k hk => (HBO.out k hk).2) hs1)
          have HP7 : Hid (Pj w rs (j + 1) w7 a7 c7 (lb ++ [⟨va, vc, x⟩])) := ⟨hol7, by
            rw [List.map_append, HRC.out, List.take_add_one, HXR.out]; rfl, hbl7⟩
          clear hown7 hgrow7 hblk7 hfr hb7 hol7 hbl7
          go_wp2_with fail
          refine ⟨.inr ⟨j + 1, a7, c7, _, by omega, rfl, rfl, ?_, HP7⟩, ?_⟩
          · rw [HSU.out]; go_num
          · simp [intOf]; omega
end Go.Proofs.YtjfbhchpgmimfaaDoor.Srb

namespace Go.Proofs.YtjfbhchpgmimfaaDoor.Sgc
open Go.RowKit Kt Cs Cf Cv Ck Ca Dk Dp Da Db Dc Dd De Sq Sr Sa Sb Sc Se Sf Sk Pl Sra Srb Dr Dr2 Dr3
set_option linter.unusedVariables false
set_option linter.unusedSimpArgs false
set_option maxRecDepth 20000

set_option maxHeartbeats 2000000 in
theorem rall_any {w : World} {F : Nat → Prop} {R : Nat} {s : St} (h : Rs w F R s) :
    Calls Tryd.prog 46 #[.pointer (some ⟨R, 0, none⟩)] w fun e w' => ∃ va vc, e = .returned (.slice va (s.kept ++ s.rest).length vc) ∧ Below w.heap.size w w' ∧ w'.ownsRow w.heap.size 5 1 (.slice va (s.kept ++ s.rest).length vc) (s.kept ++ s.rest).length (U (s.kept ++ s.rest)) := by
  obtain ⟨hlen, ka, kc, ra, rc, h⟩ := h
  have c0 := h.c0
  have c1 := h.c1
  have HK := mkH h.k.1
  have HR := mkH h.r.1
  obtain ⟨kl, hkl⟩ : ∃ kl, s.kept.length = kl := ⟨_, rfl⟩
  obtain ⟨rl, hrl⟩ : ∃ rl, s.rest.length = rl := ⟨_, rfl⟩
  rw [hkl] at c0
  rw [hrl] at c1
  rw [hkl, hrl] at hlen
  have HS : Hid (∀ W, Below w.heap.size w W → W.cell? ⟨R, 0, none⟩ = some (.slice ka kl kc) ∧ W.cell? ⟨R, 1, none⟩ = some (.slice ra rl rc)) := fun W hW =>
    ⟨by rw [hW.cell (p := ⟨R, 0, none⟩) (World.block_lt_of_cell? w _ c0)]; exact c0, by rw [hW.cell (p := ⟨R, 1, none⟩) (World.block_lt_of_cell? w _ c1)]; exact c1⟩
  have HKL := mkH hkl
  have HRL := mkH hrl
  clear h hkl hrl c0 c1
  go_enter Tryd.func46, Tryd.ntmps46
  go_wp2_with fail
  have hcur : Below w.heap.size w w.drew := below_drewN (Below.refl _ _) 1
  refine wp_region_held_drew (S := fun W => W.cell? ⟨R, 0, none⟩ = some (.slice ka kl kc) ∧ W.cell? ⟨R, 1, none⟩ = some (.slice ra rl rc)) (by kernel_rfl) ?_ (fun hHeld => ?_)
  · exact HS.out _ hcur
  have hzs : w.drew.heap.size = w.heap.size := rfl
  generalize w.drew = wz at *
  refine wpAnyH_take (i := 1) (oi := { dst := some 4, op := _, type := _, pos := _, after := _, guard := _ }) (v := ?_) rfl (by kernel_rfl) (by kernel_rfl) (by kernel_rfl) (fun _ _ _ h => h) (Or.inl ⟨by rfl, ?_⟩) (by assumption) ?_
  rotate_left
  · (intro W hSw; (try dsimp only at hSw); go_simp; try (with_reducible rfl))
  try simp only [Act.put, List.setIfInBounds_toArray, List.set_cons_zero, List.set_cons_succ]
  refine wpAnyH_take (i := 2) (oi := { dst := some 5, op := _, type := _, pos := _, after := _, guard := _ }) (v := ?_) rfl (by kernel_rfl) (by kernel_rfl) (by kernel_rfl) (fun _ _ _ h => h) (Or.inl ⟨by rfl, ?_⟩) (by assumption) ?_
  rotate_left
  · (intro W hSw; (try dsimp only at hSw); go_simp; try (with_reducible rfl))
  try simp only [Act.put, List.setIfInBounds_toArray, List.set_cons_zero, List.set_cons_succ]
  refine wpAnyH_take (i := 3) (oi := { dst := some 6, op := _, type := _, pos := _, after := _, guard := _ }) (v := ?_) rfl (by kernel_rfl) (by kernel_rfl) (by kernel_rfl) (fun _ _ _ h => h) (Or.inl ⟨by rfl, ?_⟩) (by assumption) ?_
  rotate_left
  · (intro W hSw; (try dsimp only at hSw); go_simp; try (with_reducible rfl))
  try simp only [Act.put, List.setIfInBounds_toArray, List.set_cons_zero, List.set_cons_succ]
  refine wpAnyH_take (i := 4) (oi := { dst := some 7, op := _, type := _, pos := _, after := _, guard := _ }) (v := ?_) rfl (by kernel_rfl) (by kernel_rfl) (by kernel_rfl) (fun _ _ _ h => h) (Or.inl ⟨by rfl, ?_⟩) (by assumption) ?_
  rotate_left
  · (intro W hSw; (try dsimp only at hSw); go_simp; try (with_reducible rfl))
  try simp only [Act.put, List.setIfInBounds_toArray, List.set_cons_zero, List.set_cons_succ]
  refine wpAnyH_take (i := 6) (oi := { dst := some 9, op := _, type := _, pos := _, after := _, guard := _ }) (v := ?_) rfl (by kernel_rfl) (by kernel_rfl) (by kernel_rfl) (fun _ _ _ h => h) (Or.inl ⟨by rfl, ?_⟩) (by assumption) ?_
  rotate_left
  · (intro W hSw; (try dsimp only at hSw); go_simp; try (with_reducible rfl))
  try simp only [Act.put, List.setIfInBounds_toArray, List.set_cons_zero, List.set_cons_succ]
  refine wpAnyH_take (i := 7) (oi := { dst := some 10, op := _, type := _, pos := _, after := _, guard := _ }) (v := ?_) rfl (by kernel_rfl) (by kernel_rfl) (by kernel_rfl) (fun _ _ _ h => h) (Or.inl ⟨by rfl, ?_⟩) (by assumption) ?_
  rotate_left
  · (intro W hSw; (try dsimp only at hSw); go_simp; try (with_reducible rfl))
  try simp only [Act.put, List.setIfInBounds_toArray, List.set_cons_zero, List.set_cons_succ]
  refine wpAnyH_take (i := 8) (oi := { dst := some 11, op := _, type := _, pos := _, after := _, guard := _ }) (v := ?_) rfl (by kernel_rfl) (by kernel_rfl) (by kernel_rfl) (fun _ _ _ h => h) (Or.inl ⟨by rfl, ?_⟩) (by assumption) ?_
  rotate_left
  · (intro W hSw; (try dsimp only at hSw); go_simp; try (with_reducible rfl))
  try simp only [Act.put, List.setIfInBounds_toArray, List.set_cons_zero, List.set_cons_succ]
  refine wpAnyH_take (i := 9) (oi := { dst := some 12, op := _, type := _, pos := _, after := _, guard := _ }) (v := ?_) rfl (by kernel_rfl) (by kernel_rfl) (by kernel_rfl) (fun _ _ _ h => h) (Or.inl ⟨by rfl, ?_⟩) (by assumption) ?_
  rotate_left
  · (intro W hSw; (try dsimp only at hSw); go_simp; try (with_reducible rfl))
  try simp only [Act.put, List.setIfInBounds_toArray, List.set_cons_zero, List.set_cons_succ]
  refine wpAnyH_ready (rs := [0]) (by kernel_rfl) (by simp) ?_
  refine AllReadyH.cons (o := { dst := some 3, op := _, type := _, pos := _, after := _, guard := _ }) rfl (fun K hK => ?_) AllReadyH.nil
  go_simp
  refine hK.out _ _ ?_ (fun hHeld => ?_)
  · exact HS.out _ (hcur.alloc hcur.size _)
  clear hK K
  try simp only [Act.put, List.setIfInBounds_toArray, List.set_cons_zero, List.set_cons_succ]
  have hO1 : (wz.alloc (.cells #[] 5)).ownsRow w.heap.size 5 1 (.slice (some ⟨w.heap.size, 0, none⟩) 0 0) 0 (U []) := by
    have := World.ownsRow_made (base := w.heap.size) (e := 5) (size := 1) wz #[] 0 (by omega) (Nat.zero_le _) rfl
    rw [hzs] at this
    exact this
  have hcur := hcur.alloc hcur.size (.cells #[] 5)
  generalize wz.alloc (.cells #[] 5) = w1 at *
  refine wpAnyH_ready (rs := [5]) (by kernel_rfl) (by simp) ?_
  refine AllReadyH.cons (o := { dst := some 8, op := _, type := _, pos := _, after := _, guard := _ }) rfl (fun K hK => ?_) AllReadyH.nil
  refine Ks.step_append_own_src rfl (.tmp 3) (.tmp 7) 30 30 rfl w.heap.size 5 (.int .u8 0) 1 1 Tryd.underlying30 info5 rfl (by decide) _ 0 (U []) rfl hO1 _ kl (U s.kept) rfl ?hsrc ?h63 ?hby ?hbs ?_
  case hsrc => have := Row.src (P := Tryd.prog) Tryd.underlying30 (HK.out.below hcur) kc; rw [HKL.out] at this; exact this
  case h63 => unfold maxLen; omega
  case hby => omega
  case hbs => exact hcur.size
  intro v2 w2 hown hgrow
  have hcur2 := below_own hO1 hgrow hcur hcur.size
  clear hcur
  have hcur := hcur2
  clear hcur2
  have hO2 := hown
  clear hown hgrow
  refine hK.out _ _ ?_ (fun hHeld => ?_)
  · exact HS.out _ hcur
  clear hK K
  try simp only [Act.put, List.setIfInBounds_toArray, List.set_cons_zero, List.set_cons_succ]
  have hO2 : w2.ownsRow w.heap.size 5 1 v2 kl (U s.kept) := by rw [Nat.zero_add] at hO2; exact hO2
  refine wpAnyH_ready (rs := [10]) (by kernel_rfl) (by simp) ?_
  refine AllReadyH.cons (o := { dst := some 13, op := _, type := _, pos := _, after := _, guard := _ }) rfl (fun K hK => ?_) AllReadyH.nil
  refine Ks.step_append_own_src rfl (.tmp 8) (.tmp 12) 30 30 rfl w.heap.size 5 (.int .u8 0) 1 1 Tryd.underlying30 info5 rfl (by decide) _ kl (U s.kept) rfl hO2 _ rl (U s.rest) rfl ?hsrc ?h63 ?hby ?hbs ?_
  case hsrc => have := Row.src (P := Tryd.prog) Tryd.underlying30 (HR.out.below hcur) rc; rw [HRL.out] at this; exact this
  case h63 => unfold maxLen; omega
  case hby => omega
  case hbs => exact hcur.size
  intro v3 w3 hown hgrow
  have hcur2 := below_own hO2 hgrow hcur hcur.size
  clear hcur
  have hcur := hcur2
  clear hcur2
  have hO3 := hown
  clear hown hgrow
  refine hK.out _ _ ?_ (fun hHeld => ?_)
  · exact HS.out _ hcur
  clear hK K
  try simp only [Act.put, List.setIfInBounds_toArray, List.set_cons_zero, List.set_cons_succ]
  rw [← U_append] at hO3
  have hl3 : kl + rl = (s.kept ++ s.rest).length := by rw [List.length_append, HKL.out, HRL.out]
  rw [hl3] at hO3
  obtain ⟨va, vc, rfl⟩ := own_form hO3
  refine wpAnyH_take (i := 11) (oi := { dst := some 2, op := _, type := _, pos := _, after := _, guard := _ }) (v := ?_) rfl (by kernel_rfl) (by kernel_rfl) (by kernel_rfl) (fun _ _ _ h => h) (Or.inl ⟨by rfl, ?_⟩) (by assumption) ?_
  rotate_left
  · (intro W hSw; (try dsimp only at hSw); go_simp; try (with_reducible rfl))
  try simp only [Act.put, List.setIfInBounds_toArray, List.set_cons_zero, List.set_cons_succ]
  refine wpAnyH_done (by kernel_rfl) ?_ _
  have HO := mkH hO3
  have HB := mkH hcur
  have HLL := mkH hl3
  clear hO3 hcur hHeld hO2 hl3
  go_wp2
  go_ret
  exact ⟨va, vc, by simp, HB.out, HO.out⟩

/-- These blocks are disks of the document that have this, apart from each other. -/
def Rk (w : World) (FD : Nat → Prop) (Ps : List Nat) (ss : List St) : Prop :=
  Ps.length = ss.length ∧ ∃ G : Nat → Nat → Prop, (∀ i k, G i k → FD k) ∧ (∀ i j k, G i k → G j k → i = j) ∧ ∀ i D s, Ps[i]? = some D → ss[i]? = some s → Rs w (G i) D s
theorem Rk.fr {w w' : World} {FD Q : Nat → Prop} {Ps : List Nat} {ss : List St} (h : Rk w FD Ps ss) (hf : Fr Q w w') (hd : ∀ k, FD k → ¬ Q k) : Rk w' FD Ps ss := by
  obtain ⟨h1, G, h2, h3, h4⟩ := h
  exact ⟨h1, G, h2, h3, fun i D s hD hs => (h4 i D s hD hs).fr hf (fun k hk => hd k (h2 i k hk))⟩
theorem Rk.below {w w' : World} {FD : Nat → Prop} {Ps : List Nat} {ss : List St} (h : Rk w FD Ps ss) (hb : Below w.heap.size w w') : Rk w' FD Ps ss := h.fr (Q := fun _ => False) (Fr.ofBelow hb) (fun _ _ x => x)
theorem Rk.mono {w : World} {FD FE : Nat → Prop} {Ps : List Nat} {ss : List St} (h : Rk w FD Ps ss) (hi : ∀ k, FD k → FE k) : Rk w FE Ps ss := by
  obtain ⟨h1, G, h2, h3⟩ := h
  exact ⟨h1, G, fun i k hk => hi k (h2 i k hk), h3⟩
theorem Rk.nil (w : World) (FD : Nat → Prop) : Rk w FD [] [] := ⟨rfl, fun _ _ => False, fun _ _ h => h.elim, fun _ _ _ h => h.elim, fun i D s h => by simp at h⟩
theorem Rk.at {w : World} {FD : Nat → Prop} {Ps : List Nat} {ss : List St} (h : Rk w FD Ps ss) (hlt : ∀ k, FD k → k < w.heap.size) {i D : Nat} {s : St} (h1 : Ps[i]? = some D) (h2 : ss[i]? = some s) :
    ∃ G : Nat → Prop, Rs w G D s ∧ (∀ k, G k → FD k) ∧ ∀ (w' : World) (G' : Nat → Prop) (s' : St), Rs w' G' D s' → Nx G w w' G' → Rk w' (Nw FD w w') Ps (ss.set i s') := by
  obtain ⟨h0, G, g1, g2, g3⟩ := h
  refine ⟨G i, g3 i D s h1 h2, g1 i, fun w' G' s' hd hn => ⟨by simpa using h0, fun j => if j = i then G' else G j, ?_, ?_, ?_⟩⟩
  · intro j k hk
    split at hk
    · rcases hn.2 k hk with x | x
      · exact .inl (g1 i k x)
      · exact .inr ⟨x, hd.lt k hk⟩
    · exact .inl (g1 j k hk)
  · intro a b k ha hb
    split at ha <;> split at hb
    · omega
    · rename_i e1 e2
      rcases hn.2 k ha with x | x
      · exact (e2 (g2 b i k hb x)).elim
      · have := hlt k (g1 b k hb); omega
    · rename_i e1 e2
      rcases hn.2 k hb with x | x
      · exact (e1 (g2 a i k ha x)).elim
      · have := hlt k (g1 a k ha); omega
    · exact g2 a b k ha hb
  · intro j E t hE ht
    simp only
    by_cases hj : j = i
    · subst hj
      rw [if_pos rfl]
      rw [h1] at hE
      cases hE
      have hil : j < ss.length := (List.getElem?_eq_some_iff.1 h2).1
      rw [List.getElem?_set_self hil] at ht
      cases ht
      exact hd
    · rw [if_neg hj]
      rw [List.getElem?_set_ne (by omega)] at ht
      exact (g3 j E t hE ht).fr hn.1 (fun k hk hx => hj (g2 j i k hk hx))
theorem Rk.snoc {w : World} {FD G : Nat → Prop} {Ps : List Nat} {ss : List St} {D : Nat} {s : St} (h : Rk w FD Ps ss) (hd : Rs w G D s) (hn : ∀ k, G k → ¬ FD k) : Rk w (fun k => FD k ∨ G k) (Ps ++ [D]) (ss ++ [s]) := by
  obtain ⟨h0, G0, g1, g2, g3⟩ := h
  refine ⟨by simp [h0], fun j => if j < Ps.length then G0 j else if j = Ps.length then G else fun _ => False, ?_, ?_, ?_⟩
  · intro j k hk
    split at hk
    · exact .inl (g1 j k hk)
    · split at hk
      · exact .inr hk
      · exact hk.elim
  · intro a b k ha hb
    split at ha <;> split at hb
    · exact g2 a b k ha hb
    · split at hb
      · exact (hn k hb (g1 a k ha)).elim
      · exact hb.elim
    · split at ha
      · exact (hn k ha (g1 b k hb)).elim
      · exact ha.elim
    · split at ha
      · split at hb
        · omega
        · exact hb.elim
      · exact ha.elim
  · intro j E t hE ht
    simp only
    by_cases hj : j < Ps.length
    · rw [if_pos hj]
      rw [List.getElem?_append_left hj] at hE
      rw [List.getElem?_append_left (by omega)] at ht
      exact g3 j E t hE ht
    · rw [if_neg hj]
      rw [List.getElem?_append_right (by omega)] at hE
      rw [List.getElem?_append_right (by omega)] at ht
      by_cases e : j = Ps.length
      · rw [if_pos e]
        subst e
        simp at hE
        rw [h0] at ht
        simp at ht
        subst hE
        subst ht
        exact hd
      · have : j - Ps.length ≠ 0 := by omega
        obtain ⟨q, hq⟩ : ∃ q, j - Ps.length = q + 1 := ⟨j - Ps.length - 1, by omega⟩
        rw [hq] at hE
        simp at hE
theorem Rk.drop {w : World} {FD : Nat → Prop} {Ps : List Nat} {ss : List St} (h : Rk w FD Ps ss) (n : Nat) : Rk w FD (Ps.drop n) (ss.drop n) := by
  obtain ⟨h0, G, g1, g2, g3⟩ := h
  refine ⟨by simp [h0], fun i => G (n + i), fun i k hk => g1 _ k hk, fun i j k hi hj => by have := g2 _ _ k hi hj; omega, fun i D s hD hs => ?_⟩
  rw [List.getElem?_drop] at hD hs
  exact g3 _ D s hD hs
theorem Rk.take {w : World} {FD : Nat → Prop} {Ps : List Nat} {ss : List St} (h : Rk w FD Ps ss) (n : Nat) : Rk w FD (Ps.take n) (ss.take n) := by
  obtain ⟨h0, G, g1, g2, g3⟩ := h
  refine ⟨by simp [h0], G, g1, g2, fun i D s hD hs => ?_⟩
  rw [List.getElem?_take] at hD hs
  split at hD
  · rename_i hi
    rw [if_pos hi] at hs
    exact g3 _ D s hD hs
  · cases hD

/-- A row of pointers, somewhere in a block of F. -/
def Rq (w : World) (F FD : Nat → Prop) (R : Nat) (v : Value) (Ps : List Nat) : Prop :=
  (v = .slice none 0 0 ∧ Ps = []) ∨
  ∃ g off cap cur, v = .slice (some ⟨g, off, none⟩) Ps.length cap ∧ F g ∧ g ≠ R ∧ ¬ FD g ∧ w.heap[g]? = some (.cells cur 54 (0, 0)) ∧ Ps.length ≤ cap ∧ off + cap ≤ cur.size ∧ cap ≤ maxLen ∧ ∀ i u, (Pt Ps)[i]? = some u → cur[off + i]? = some u
theorem Rq.nil (w : World) (F FD : Nat → Prop) (R : Nat) : Rq w F FD R (.slice none 0 0) [] := .inl ⟨rfl, rfl⟩
theorem Rq.form {w : World} {F FD : Nat → Prop} {R : Nat} {v : Value} {Ps : List Nat} (h : Rq w F FD R v Ps) : ∃ ao cap, v = .slice ao Ps.length cap ∧ Ps.length ≤ cap ∧ cap ≤ 9223372036854775807 := by
  rcases h with ⟨rfl, rfl⟩ | ⟨g, off, cap, cur, rfl, -, -, -, -, h1, h2, h3, -⟩
  · exact ⟨none, 0, rfl, Nat.le_refl _, by omega⟩
  · exact ⟨_, cap, rfl, h1, by unfold maxLen at h3; omega⟩
theorem Rq.kept {w w' : World} {F FD : Nat → Prop} {R : Nat} {v : Value} {Ps : List Nat} (h : Rq w F FD R v Ps) (hk : ∀ g, F g → g ≠ R → ¬ FD g → w'.heap[g]? = w.heap[g]?) : Rq w' F FD R v Ps := by
  rcases h with h | ⟨g, off, cap, cur, h1, h2, h3, h4, h5, h6⟩
  · exact .inl h
  · exact .inr ⟨g, off, cap, cur, h1, h2, h3, h4, by rw [hk g h2 h3 h4]; exact h5, h6⟩
theorem Rq.mono {w : World} {F FD F' FD' : Nat → Prop} {R : Nat} {v : Value} {Ps : List Nat} (h : Rq w F FD R v Ps) (hF : ∀ k, F k → F' k) (hD : ∀ k, F k → ¬ FD k → ¬ FD' k) : Rq w F' FD' R v Ps := by
  rcases h with h | ⟨g, off, cap, cur, h1, h2, h3, h4, h5, h6⟩
  · exact .inl h
  · exact .inr ⟨g, off, cap, cur, h1, hF g h2, h3, hD g h2 h4, h5, h6⟩
theorem Rq.at {w : World} {F FD : Nat → Prop} {R : Nat} {ao : Option Addr} {n cap : Nat} {Ps : List Nat} (h : Rq w F FD R (.slice ao n cap) Ps) {i D : Nat} (hD : Ps[i]? = some D) : ∃ g off, ao = some ⟨g, off, none⟩ ∧ w.cell? ⟨g, off + i, none⟩ = some (.pointer (some ⟨D, 0, none⟩)) ∧ F g ∧ g ≠ R ∧ ¬ FD g := by
  rcases h with ⟨h1, rfl⟩ | ⟨g, off, c, cur, h1, h2, h3, h4, h5, h6, h7, h8, h9⟩
  · simp at hD
  · simp only [Value.slice.injEq] at h1
    obtain ⟨rfl, -, rfl⟩ := h1
    exact ⟨g, off, rfl, by rw [cell_of_row _ _ _ _ _ _ h5]; exact h9 i _ (Pt_at hD), h2, h3, h4⟩
/-- 'l.Segs[1:]'. -/
theorem Rq.tail {w : World} {F FD : Nat → Prop} {R g off n cap P : Nat} {Ps : List Nat} (h : Rq w F FD R (.slice (some ⟨g, off, none⟩) n cap) (P :: Ps)) : Rq w F FD R (.slice (some ⟨g, off + 1, none⟩) Ps.length (cap - 1)) Ps := by
  rcases h with ⟨h1, h2⟩ | ⟨g', off', c, cur, h1, h2, h3, h4, h5, h6, h7, h8, h9⟩
  · simp at h1
  · simp only [Value.slice.injEq, Option.some.injEq, Addr.mk.injEq, and_true] at h1
    obtain ⟨⟨rfl, rfl⟩, -, rfl⟩ := h1
    rw [List.length_cons] at h6
    refine .inr ⟨g, off + 1, cap - 1, cur, rfl, h2, h3, h4, h5, by omega, by omega, by unfold maxLen at *; omega, fun i u hi => ?_⟩
    rw [show off + 1 + i = off + (i + 1) by omega]
    exact h9 (i + 1) u (by simpa [Pt] using hi)
theorem infoR : (Tryd.prog.info? 54).map (fun i => (i.zero, i.size, i.bytes)) = some (some (.pointer none), 1, 8) := by kernel_rfl
set_option maxHeartbeats 1000000 in
/-- 'append(l.Segs, d)': in place, or into a new block. -/
theorem run_append_rq (w : World) (F FD : Nat → Prop) (R : Nat) (ty : TypeId) (v : Value) (Ps : List Nat) (hq : Rq w F FD R v Ps) (X : Nat) (x : Value) (hs : Src Tryd.prog 1 44 x 1 [.pointer (some ⟨X, 0, none⟩)] w) (hlen : Ps.length ≤ 1000000) (hR : R < w.heap.size) (hFD : ∀ k, FD k → k < w.heap.size) :
    ∃ v' w', (Builtin.append_ #[44, 44] ty #[v, x]).run Tryd.prog w = .ok v' w' ∧ Fr (fun k => F k ∧ k ≠ R ∧ ¬ FD k) w w' ∧ Rq w' (Nw F w w') FD R v' (Ps ++ [X]) := by
  obtain ⟨i, hi, hz, hsize, hby⟩ := info_parts infoR
  have ht := Tryd.underlying44
  have hl1 : (Pt (Ps ++ [X])).length = Ps.length + 1 := by rw [Pt_len, List.length_append]; rfl
  have grown : ∀ (old : Nat), old < Ps.length + 1 →
      Rq (w.drew.alloc (.cells ((Pt (Ps ++ [X])).toArray ++ Builtin.zeroCells (Value.pointer none).cells (grownCap w (Ps.length + 1) old 54 - (Ps.length + 1))) 54)) (Nw F w (w.drew.alloc (.cells ((Pt (Ps ++ [X])).toArray ++ Builtin.zeroCells (Value.pointer none).cells (grownCap w (Ps.length + 1) old 54 - (Ps.length + 1))) 54))) FD R
        (.slice (some ⟨w.heap.size, 0, none⟩) (Ps.length + 1) (grownCap w (Ps.length + 1) old 54)) (Ps ++ [X]) := by
    intro old ho
    have hge := grownCap_ge w (Ps.length + 1) old 54
    have hcm : grownCap w (Ps.length + 1) old 54 ≤ maxLen := grownCap_le_maxLen w (Ps.length + 1) old 54 (by unfold maxLen; omega)
    refine .inr ⟨w.heap.size, 0, grownCap w (Ps.length + 1) old 54, _, by rw [List.length_append]; rfl, .inr ⟨Nat.le_refl _, by simp⟩, by omega, fun hx => by have := hFD _ hx; omega, heap_alloc_new w.drew _, by rw [List.length_append]; exact hge, ?_, hcm, fun j u hj => ?_⟩
    · simp only [Array.size_append, List.size_toArray, size_zeroCells, hl1]
      have : (Value.pointer none).cells.size = 1 := rfl
      rw [this]; omega
    · have hjl : j < (Pt (Ps ++ [X])).length := (List.getElem?_eq_some_iff.1 hj).1
      rw [Nat.zero_add, Array.getElem?_append_left (by simpa using hjl)]
      simpa using hj
  have hP1 : Pt (Ps ++ [X]) = Pt Ps ++ [.pointer (some ⟨X, 0, none⟩)] := Pt_snoc Ps X
  rcases hq with ⟨rfl, rfl⟩ | ⟨g, off, cap, cur, rfl, hF, hgR, hgD, hg, hnc, hcs, hcm, hall⟩
  · have hr := run_append_grow_src (P := Tryd.prog) w 44 44 ty 54 i _ ht hi hz none 0 0 [] (run_firstCells_none w.drew i.size 0 0 0) x 1 _ (by rw [hsize]; exact hs) (by omega) (by omega) (growslice_fits (by omega) (by rw [hby]; omega))
    have hgr := grown 0 (by simp)
    simp only [Nat.zero_add, List.nil_append, List.length_nil] at hgr hr ⊢
    exact ⟨_, _, hr, (Fr.refl _ _).alloc _ |> fun h => ⟨h.os, h.tape, h.output, h.size, h.block⟩, hgr⟩
  · by_cases hroom : Ps.length + 1 ≤ cap
    · have hst := run_storeCells_at Tryd.prog g (off + Ps.length) 54 [.pointer (some ⟨X, 0, none⟩)] 0 cur w hg (by simp; omega) hs.one
      simp only [Nat.add_zero] at hst
      have hr : (Builtin.append_ #[44, 44] ty #[.slice (some ⟨g, off, none⟩) Ps.length cap, x]).run Tryd.prog w =
          .ok (.slice (some ⟨g, off, none⟩) (Ps.length + 1) cap) (w.setRow g (cur.toList.take (off + Ps.length) ++ [Value.pointer (some ⟨X, 0, none⟩)] ++ cur.toList.drop (off + Ps.length + 1)).toArray) := by
        have hl := hs.len
        have hc := hs.cells
        rcases hs.kind with ⟨e', hk⟩ | hk <;> simp [Builtin.append_, run_underlying ht, run_underlying hk, sizeOf, typeInfo, hi, hsize, hl, hroom, hc, Addr.add_lit, hst]
      refine ⟨_, _, hr, (Fr.refl _ _).setRow (.inl ⟨hF, hgR, hgD⟩) _, .inr ⟨g, off, cap, _, by rw [List.length_append]; rfl, .inl hF, hgR, hgD, setRow_heap w g cur _ _ _ hg, by rw [List.length_append]; exact hroom, ?_, hcm, fun j u hj => ?_⟩⟩
      · simp only [List.size_toArray, List.length_append, List.length_take, List.length_drop, Array.length_toList, List.length_singleton]
        omega
      · rw [hP1] at hj
        simp only [List.getElem?_toArray]
        have e : (cur.toList.take (off + Ps.length)).length = off + Ps.length := by
          have hct : cur.toList.length = cur.size := by simp
          rw [List.length_take, hct]; omega
        by_cases hjl : j < Ps.length
        · rw [List.getElem?_append_left (by rw [Pt_len]; exact hjl)] at hj
          have := hall j u hj
          rw [List.append_assoc, List.getElem?_append_left (by rw [e]; omega), List.getElem?_take, if_pos (by omega)]
          simpa using this
        · have hj2 : j = Ps.length := by
            have := (List.getElem?_eq_some_iff.1 hj).1
            rw [List.length_append, Pt_len, List.length_singleton] at this
            omega
          subst hj2
          rw [List.getElem?_append_right (by rw [Pt_len]; omega), Pt_len, Nat.sub_self] at hj
          rw [List.append_assoc, List.getElem?_append_right (by rw [e]; omega), e, Nat.sub_self]
          simpa using hj
    · have holds : ∀ j u, (Pt Ps)[j]? = some u → w.cell? ((⟨g, off, none⟩ : Addr).add j) = some u := by
        intro j u hj
        rw [Addr.add_lit, cell_of_row _ _ _ _ _ _ hg]
        exact hall j u hj
      have hold := run_firstCells_some (P := Tryd.prog) w.drew i.size Ps.length ⟨g, off, none⟩ Ps.length cap (Pt Ps) (by rw [hsize, Pt_len]; omega) (by simpa using holds)
      have hr := run_append_grow_src (P := Tryd.prog) w 44 44 ty 54 i _ ht hi hz (some ⟨g, off, none⟩) Ps.length cap (Pt Ps) hold x 1 _ (by rw [hsize]; exact hs) (by omega) (by omega) (growslice_fits (by omega) (by rw [hby]; omega))
      rw [← hP1] at hr
      have hgr := grown cap (by omega)
      exact ⟨_, _, hr, (Fr.refl _ _).alloc _ |> fun h => ⟨h.os, h.tape, h.output, h.size, h.block⟩, hgr⟩
/-- The same at the walk's list of operations. -/
theorem wpList_append_rq {w : World} {ops : Array Oper} {rest : List Oper} {o : Oper} {a : Act} {Q : Exit → Act → World → Prop} (hgd : o.guard = none) (s x : Operand)
    (ho : o.op = .call { callee := .builtin .append, args := #[s, x], argTypes := #[44, 44] })
    (F FD : Nat → Prop) (R : Nat) (v : Value) (Ps : List Nat) (hs : a.eval s = v) (hq : Rq w F FD R v Ps) (X : Nat) (xv : Value) (hx : a.eval x = xv) (hsrc : Src Tryd.prog 1 44 xv 1 [.pointer (some ⟨X, 0, none⟩)] w) (hlen : Ps.length ≤ 1000000) (hR : R < w.heap.size) (hFD : ∀ k, FD k → k < w.heap.size)
    (h : ∀ v' w', Fr (fun k => F k ∧ k ≠ R ∧ ¬ FD k) w w' → Rq w' (Nw F w w') FD R v' (Ps ++ [X]) → wpList Tryd.prog ops Q rest (a.put o.dst v') w') : wpList Tryd.prog ops Q (o :: rest) a w := by
  refine wpList_plain hgd fun _ hK => ?_
  obtain ⟨v', w', hr, h2, h3⟩ := run_append_rq w F FD R o.type v Ps hq X xv hsrc hlen hR hFD
  unfold Oper.wp execOp
  simp only [ho, resolve, invoke, builtin, Sem.run_bind, Sem.run_pure, Result.andThen_ok, List.map_toArray, List.map_cons, List.map_nil, hs, hx, hr]
  exact hK _ _ (h v' w' h2 h3)

/-- Block R is a log of the document's. -/
structure Rl (w : World) (F FD : Nat → Prop) (R : Nat) (per : Nat) (down : Bool) (v : Value) (Ps : List Nat) : Prop where
  lt : ∀ k, F k → k < w.heap.size
  own : F R
  fd : ∀ k, FD k → F k ∧ k ≠ R
  heap : w.heap[R]? = some (.cells #[.int .i64 (per : Int), v, .bool down] 46 (0, 0))
  row : Rq w F FD R v Ps
section
variable {w : World} {F FD : Nat → Prop} {R per : Nat} {down : Bool} {v : Value} {Ps : List Nat}
theorem Rl.c0 (h : Rl w F FD R per down v Ps) : w.cell? ⟨R, 0, none⟩ = some (.int .i64 (per : Int)) := by rw [cell_of_row _ _ _ _ _ _ h.heap]; rfl
theorem Rl.c1 (h : Rl w F FD R per down v Ps) : w.cell? ⟨R, 1, none⟩ = some v := by rw [cell_of_row _ _ _ _ _ _ h.heap]; rfl
theorem Rl.c2 (h : Rl w F FD R per down v Ps) : w.cell? ⟨R, 2, none⟩ = some (.bool down) := by rw [cell_of_row _ _ _ _ _ _ h.heap]; rfl
theorem Rl.fz (h : Rl w F FD R per down v Ps) (k : Nat) : w.frozen? ⟨R, k, none⟩ = false := frozen_of_row w R k _ _ h.heap
theorem Rl.rlt (h : Rl w F FD R per down v Ps) : R < w.heap.size := block_lt h.heap
theorem Rl.fdlt (h : Rl w F FD R per down v Ps) : ∀ k, FD k → k < w.heap.size := fun k hk => h.lt k (h.fd k hk).1
theorem Rl.fr {w' : World} {Q : Nat → Prop} (h : Rl w F FD R per down v Ps) (hf : Fr Q w w') (hq : ∀ k, Q k → ¬ F k) : Rl w' F FD R per down v Ps :=
  ⟨fun k hk => Nat.lt_of_lt_of_le (h.lt k hk) hf.size, h.own, h.fd, by rw [hf.heap h.rlt (fun x => hq R x h.own)]; exact h.heap, h.row.kept (fun g hg _ _ => hf.heap (h.lt g hg) (fun x => hq g x hg))⟩
theorem Rl.below {w' : World} (h : Rl w F FD R per down v Ps) (hb : Below w.heap.size w w') : Rl w' F FD R per down v Ps := h.fr (Q := fun _ => False) (Fr.ofBelow hb) (fun _ x => x.elim)
/-- .. and what turns among its disks. -/
theorem Rl.disk {w' : World} {Q : Nat → Prop} (h : Rl w F FD R per down v Ps) (hf : Fr Q w w') (hq : ∀ k, Q k → FD k) : Rl w' (Nw F w w') (Nw FD w w') R per down v Ps := by
  refine ⟨Nw.lt h.lt hf.size, .inl h.own, fun k hk => ?_, by rw [hf.heap h.rlt (fun x => (h.fd R (hq R x)).2 rfl)]; exact h.heap, ?_⟩
  · rcases hk with x | x
    · exact ⟨.inl (h.fd k x).1, (h.fd k x).2⟩
    · have := h.rlt; exact ⟨.inr x, by omega⟩
  · refine (h.row.kept (w' := w') (fun g h1 h2 h3 => hf.heap (h.lt g h1) (fun x => h3 (hq g x)))).mono (fun k hk => .inl hk) (fun k hk hn hx => ?_)
    rcases hx with x | x
    · exact hn x
    · have := h.lt k hk; omega
theorem rl_set (h : Rl w F FD R per down v Ps) (i : Nat) (u : Value) : Fr (fun k => k = R) w (w.setCell ⟨R, i, none⟩ u) := by
  rw [setCell_eq_setRow w R i _ _ (0, 0) _ h.heap]
  exact (Fr.refl (fun k => k = R) w).setRow (b := R) (.inl rfl) _
theorem rl_lt (h : Rl w F FD R per down v Ps) (i : Nat) (u : Value) : ∀ k, F k → k < (w.setCell ⟨R, i, none⟩ u).heap.size := fun k hk => Nat.lt_of_lt_of_le (h.lt k hk) (rl_set h i u).size
theorem Rl.setDown (h : Rl w F FD R per down v Ps) (d : Bool) : Rl (w.setCell ⟨R, 2, none⟩ (.bool d)) F FD R per d v Ps :=
  ⟨rl_lt h _ _, h.own, h.fd, by rw [setCell_eq_setRow w R 2 _ _ (0, 0) _ h.heap]; exact setRow_heap _ _ _ _ _ _ h.heap, h.row.kept (fun g h1 h2 h3 => (rl_set h 2 _).heap (h.lt g h1) h2)⟩
theorem rl_row {v2 : Value} {Ps2 : List Nat} (lt : ∀ k, F k → k < w.heap.size) (own : F R) (fd : ∀ k, FD k → F k ∧ k ≠ R) (heap : w.heap[R]? = some (.cells #[.int .i64 (per : Int), v, .bool down] 46 (0, 0))) (hr : Rq w F FD R v2 Ps2) : Rl (w.setCell ⟨R, 1, none⟩ v2) F FD R per down v2 Ps2 ∧ Fr (fun k => k = R) w (w.setCell ⟨R, 1, none⟩ v2) := by
  rw [setCell_eq_setRow w R 1 _ _ (0, 0) _ heap]
  exact ⟨⟨fun k hk => by rw [setRow_size]; exact lt k hk, own, fd, setRow_heap _ _ _ _ _ _ heap, hr.kept (fun g h1 h2 h3 => setRow_other _ _ _ _ h2)⟩, (Fr.refl (fun k => k = R) w).setRow (b := R) (.inl rfl) _⟩
theorem Rk.rl {ss : List St} (hs : Rk w FD Ps ss) (h : Rl w F FD R per down v Ps) (i : Nat) (u : Value) : Rk (w.setCell ⟨R, i, none⟩ u) FD Ps ss := hs.fr (rl_set h i u) (fun k hk e => (h.fd k hk).2 e)
end
/-- Block R is the document's log that has this. -/
def Rg (w : World) (F : Nat → Prop) (R : Nat) (h : H) : Prop := ∃ v FD Ps, Rl w F FD R h.per h.dn.isSome v Ps ∧ Rk w FD Ps (h.segs.map (dst h.dn))
theorem Rg.below {w w' : World} {F : Nat → Prop} {R : Nat} {h : H} (hl : Rg w F R h) (hb : Below w.heap.size w w') : Rg w' F R h := by
  obtain ⟨v, FD, Ps, h1, h2⟩ := hl
  exact ⟨v, FD, Ps, h1.below hb, h2.below hb⟩
theorem Rg.fr {w w' : World} {F Q : Nat → Prop} {R : Nat} {h : H} (hl : Rg w F R h) (hf : Fr Q w w') (hq : ∀ k, Q k → ¬ F k) : Rg w' F R h := by
  obtain ⟨v, FD, Ps, h1, h2⟩ := hl
  exact ⟨v, FD, Ps, h1.fr hf hq, h2.fr hf (fun k hk x => hq k x (h1.fd k hk).1)⟩
theorem Rg.lt {w : World} {F : Nat → Prop} {R : Nat} {h : H} (hl : Rg w F R h) : ∀ k, F k → k < w.heap.size := by obtain ⟨v, FD, Ps, h1, h2⟩ := hl; exact h1.lt
end Go.Proofs.YtjfbhchpgmimfaaDoor.Sgc

namespace Go.Proofs.YtjfbhchpgmimfaaDoor.Sgd
open Go.RowKit Kt Cs Cf Cv Ck Ca Dk Dp Da Db Dc Dd De Sq Sr Sa Sb Sc Se Sf Sk Pl Sra Srb Dr Dr2 Dr3 Sgc
set_option linter.unusedVariables false
set_option linter.unusedSimpArgs false
set_option maxRecDepth 20000

theorem rall_seg {w : World} {G : Nat → Prop} {D : Nat} {s : Sg} (h : Rs w G D (dst none s)) :
    Calls Tryd.prog 46 #[.pointer (some ⟨D, 0, none⟩)] w fun e w' => ∃ va vc, e = .returned (.slice va (fcat (bod s)).length vc) ∧ Below w.heap.size w w' ∧ Row w' va (fcat (bod s)) ∧ (fcat (bod s)).length ≤ vc ∧ vc ≤ 9223372036854775807 := by
  refine (rall_any h).mono ?_
  rintro e w' ⟨va, vc, rfl, hb, ho⟩
  have e1 : (dst none s).kept ++ (dst none s).rest = fcat (bod s) := kb_rb s
  rw [e1] at ho ⊢
  obtain ⟨-, h2, h3⟩ := Row.own ho
  exact ⟨va, vc, rfl, hb, h3, h2, own_cap ho⟩
theorem parse_seg (w : World) (va : Option Addr) (vc : Nat) {s : Sg} (hf : Fits s) (hr : Row w va (fcat (bod s))) (hc : (fcat (bod s)).length ≤ vc) (hcap : vc ≤ 9223372036854775807) :
    Calls Tryd.prog 45 #[.slice va (fcat (bod s)).length vc] w fun e w' => ∃ a c lb, e = .returned (.tuple #[.int .i64 (s.first : Int), .slice a s.recs.length c, .int .i64 ((fcat (bod s)).length : Nat)]) ∧ Pj w s.recs s.recs.length w' a c lb := by
  have h := parse_any w va vc s.first s.recs [] (by rw [List.append_nil]; exact hr) (by have := hf.len; simp only [bod] at this; simp; omega) (by rw [List.append_nil]; exact hc) hcap hf.1 hf.2.2.1 (by decide)
  rw [List.append_nil] at h
  exact h
theorem parse_kept (w : World) (ka : Option Addr) (kc : Nat) {s : Sg} (hf : Fits s) (hr : Row w ka (kb s)) (hc : (kb s).length ≤ kc) (hcap : kc ≤ 9223372036854775807) :
    Calls Tryd.prog 45 #[.slice ka (kb s).length kc] w fun e w' => ∃ (b : Int) (a : Option Addr) (c x : Nat), e = .returned (.tuple #[.int .i64 b, .slice a (kn s - 1) c, .int .i64 (x : Int)]) ∧ Below w.heap.size w w' := by
  have hl : (kb s).length ≤ 422300 := by
    have := hf.len
    rw [← kb_rb, List.length_append] at this
    omega
  cases hk : kn s with
  | zero =>
    have e : kb s = [] := by unfold kb; rw [hk]; rfl
    rw [e] at hr hc hl ⊢
    refine (parse_none w ka kc [] hr (by simp) (by simp) hcap (by decide)).mono ?_
    rintro e w' ⟨rfl, hb⟩
    exact ⟨-1, none, 0, 0, rfl, hb⟩
  | succ k =>
    have hk2 := hf.2.2.2
    have e : kb s = fcat (enc s.first :: s.recs.take k) := by unfold kb; rw [hk]; rfl
    rw [e] at hr hc hl ⊢
    have h := parse_any w ka kc s.first (s.recs.take k) [] (by simpa using hr) (by simpa using (by omega : (fcat (enc s.first :: s.recs.take k)).length ≤ 1000000)) (by simpa using hc) hcap hf.1 (fun x hx => hf.2.2.1 x (List.mem_of_mem_take hx)) (by decide)
    rw [List.append_nil] at h
    have hlen : (s.recs.take k).length = k + 1 - 1 := by rw [List.length_take]; omega
    rw [hlen] at h
    refine h.mono ?_
    rintro e w' ⟨a, c, lb, rfl, hp⟩
    exact ⟨_, a, c, _, rfl, hp.below⟩

section
variable {w : World} {F : Nat → Prop} {R : Nat} {h : H}
theorem rg_up (hl : Rg w F R h) (hd : h.dn = none) : ∃ ao cap FD Ps, Rl w F FD R h.per false (.slice ao Ps.length cap) Ps ∧ Rk w FD Ps (h.segs.map (dst none)) ∧ Ps.length = h.segs.length := by
  obtain ⟨v, FD, Ps, h1, h2⟩ := hl
  obtain ⟨ao, cap, rfl, -⟩ := h1.row.form
  rw [hd] at h1 h2
  exact ⟨ao, cap, FD, Ps, h1, h2, by have := h2.1; simpa using this⟩
theorem rg_down {p : Int × Int} (hl : Rg w F R h) (hd : h.dn = some p) : ∃ ao cap FD Ps, Rl w F FD R h.per true (.slice ao Ps.length cap) Ps ∧ Rk w FD Ps (h.segs.map (dst (some p))) ∧ Ps.length = h.segs.length := by
  obtain ⟨v, FD, Ps, h1, h2⟩ := hl
  obtain ⟨ao, cap, rfl, -⟩ := h1.row.form
  rw [hd] at h1 h2
  exact ⟨ao, cap, FD, Ps, h1, h2, by have := h2.1; simpa using this⟩
/-- The disk at a place. -/
theorem rg_seg {FD : Nat → Prop} {per : Nat} {d : Bool} {ao : Option Addr} {n cap : Nat} {Ps : List Nat} {ss : List St} (h1 : Rl w F FD R per d (.slice ao n cap) Ps) (h2 : Rk w FD Ps ss) {i : Nat} {s : St} (hs : ss[i]? = some s) : ∃ D g off, ao = some ⟨g, off, none⟩ ∧ w.cell? ⟨g, off + i, none⟩ = some (.pointer (some ⟨D, 0, none⟩)) ∧ Ps[i]? = some D ∧ ∃ G : Nat → Prop, Rs w G D s ∧ ∀ k, G k → FD k := by
  have hi : i < ss.length := (List.getElem?_eq_some_iff.1 hs).1
  obtain ⟨D, hD⟩ := nth (l := Ps) (j := i) (by have := h2.1; omega)
  obtain ⟨g, off, e, hc, -⟩ := h1.row.at hD
  obtain ⟨G, g1, g2, -⟩ := h2.at h1.fdlt hD hs
  exact ⟨D, g, off, e, hc, hD, G, g1, g2⟩

set_option maxHeartbeats 1000000 in
theorem rbase_any {N : Nat} (hl : Rg w F R h) (hi : Inv N h) :
    Calls Tryd.prog 20 #[.pointer (some ⟨R, 0, none⟩)] w fun e w' => e = .returned (.int .i64 (nb h : Nat)) ∧ Below w.heap.size w w' := by
  cases hd : h.dn with
  | some p =>
    have e0 : nb h = 0 := by simp [nb, hd]
    obtain ⟨ao, cap, FD, Ps, h1, -⟩ := rg_down hl hd
    have c2 := h1.c2
    rw [e0]
    clear h1 hl hi
    go_enter Tryd.func20, Tryd.ntmps20
    go_wp2
    go_ret
    exact ⟨rfl, Below.refl _ _⟩
  | none =>
    have e0 : nb h = bas h.segs := by simp [nb, hd]
    obtain ⟨ao, cap, FD, Ps, h1, h2, h3⟩ := rg_up hl hd
    have c1 := h1.c1
    have c2 := h1.c2
    rw [h3] at c1
    rw [e0]
    cases hsg : h.segs with
    | nil =>
      rw [hsg] at c1
      simp only [List.length_nil] at c1
      clear h1 h2 h3 hl hi
      go_enter Tryd.func20, Tryd.ntmps20
      go_wp2
      go_ret
      exact ⟨rfl, Below.refl _ _⟩
    | cons s t =>
      obtain ⟨D, g, off, rfl, hc, -, G, hG, -⟩ := rg_seg h1 h2 (i := 0) (s := dst none s) (by rw [hsg]; rfl)
      rw [Nat.add_zero] at hc
      have hfs := hi.fits s (by rw [hsg]; simp)
      obtain ⟨n, hn⟩ : ∃ n, h.segs.length = n := ⟨_, rfl⟩
      have hn0 : 0 < n := by rw [← hn, hsg]; simp
      have hn1 : n ≤ 256 := by rw [← hn]; exact hi.n
      have hnz : ¬ n = 0 := by omega
      have hnz2 : ((n : Int) == 0) = false := by simp; omega
      rw [hn] at c1
      have e1 : bas (s :: t) = s.first := rfl
      rw [e1]
      have HG := mkH (rall_seg hG)
      have HF := mkH hfs
      obtain ⟨xl, hxl⟩ : ∃ xl, (fcat (bod s)).length = xl := ⟨_, rfl⟩
      rw [hxl] at HG
      have HXL := mkH hxl
      clear h1 h2 h3 hl hi hG hfs hn hsg hxl e0 e1
      go_enter Tryd.func20, Tryd.ntmps20
      go_wp2_with fail
      refine HG.out.mono ?_
      rintro e w1 ⟨va, vc, rfl, hb1, hr1, hk1, hk2⟩
      have hp := parse_seg w1 va vc HF.out hr1 (by rw [HXL.out]; exact hk1) hk2
      rw [HXL.out] at hp
      have HP := mkH hp
      have HB := mkH hb1
      clear hp hr1 hb1
      go_wp2_with fail
      refine HP.out.mono ?_
      rintro e w2 ⟨a, c, lb, rfl, hpj⟩
      have HB2 := mkH (HB.out.trans (hpj.below.mono HB.out.size))
      clear hpj HP
      go_wp2
      go_ret
      exact ⟨rfl, HB2.out⟩

set_option maxHeartbeats 2000000 in
theorem rlen_any {N : Nat} (hl : Rg w F R h) (hi : Inv N h) (hN : N ≤ 1000000) :
    Calls Tryd.prog 22 #[.pointer (some ⟨R, 0, none⟩)] w fun e w' => e = .returned (.int .i64 (nn h : Nat)) ∧ Below w.heap.size w w' := by
  cases hd : h.dn with
  | some p =>
    have e0 : nn h = 0 := by simp [nn, hd]
    obtain ⟨ao, cap, FD, Ps, h1, -⟩ := rg_down hl hd
    have c2 := h1.c2
    rw [e0]
    clear h1 hl hi
    go_enter Tryd.func22, Tryd.ntmps22
    go_wp2
    go_ret
    exact ⟨rfl, Below.refl _ _⟩
  | none =>
    have e0 : nn h = top h.segs := by simp [nn, hd]
    obtain ⟨ao, cap, FD, Ps, h1, h2, h3⟩ := rg_up hl hd
    have c1 := h1.c1
    have c2 := h1.c2
    rw [h3] at c1
    rw [e0]
    by_cases hsg : h.segs = []
    · rw [hsg] at c1 ⊢
      simp only [List.length_nil] at c1
      clear h1 h2 h3 hl hi
      go_enter Tryd.func22, Tryd.ntmps22
      go_wp2
      go_ret
      exact ⟨rfl, Below.refl _ _⟩
    · obtain ⟨i, s, hsn⟩ := snoc_of hsg
      obtain ⟨L, hL⟩ : ∃ L, i.length = L := ⟨_, rfl⟩
      have hsL : h.segs[L]? = some s := by rw [hsn, ← hL]; simp
      obtain ⟨D, g, off, rfl, hc, -, G, hG, -⟩ := rg_seg h1 h2 (i := L) (s := dst none s) (by rw [List.getElem?_map, hsL]; rfl)
      have hfs := hi.fits s (by rw [hsn]; simp)
      have hto : s.first + s.recs.length ≤ 1000000 := by have := hi.top; rw [hsn, top_snoc] at this; omega
      obtain ⟨n, hn⟩ : ∃ n, h.segs.length = n := ⟨_, rfl⟩
      have hnL : n = L + 1 := by rw [← hn, hsn, ← hL]; simp
      have hn1 : n ≤ 256 := by rw [← hn]; exact hi.n
      have hnz2 : ((n : Int) == 0) = false := by simp; omega
      have hnz : ¬ n = 0 := by omega
      have hn3 : (n : Int) - 1 = (L : Int) := by omega
      have hLn : L < n := by omega
      have hLn2 : (0 : Int) ≤ (L : Int) := by omega
      have hLn3 : (L : Int) < (n : Int) := by omega
      have hLn4 : IntKind.i64.wrap (L : Int) = (L : Int) := wrap_fit L (by omega)
      have hLn5 : IntKind.i64.wrap ((n : Int) - 1) = (L : Int) := by rw [hn3]; exact hLn4
      rw [hn] at c1
      have e1 : top h.segs = s.first + s.recs.length := by rw [hsn, top_snoc]
      rw [e1]
      have HKS : Hid (∀ W, Below w.heap.size w W → W.cell? ⟨R, 1, none⟩ = some (.slice (some ⟨g, off, none⟩) n cap) ∧ W.cell? ⟨g, off + L, none⟩ = some (.pointer (some ⟨D, 0, none⟩))) := fun W hW =>
        ⟨by rw [hW.cell (p := ⟨R, 1, none⟩) (World.block_lt_of_cell? w _ c1)]; exact c1, by rw [hW.cell (p := ⟨g, off + L, none⟩) (World.block_lt_of_cell? w _ hc)]; exact hc⟩
      have hb0 : Below w.heap.size w w.drew := below_drewN (Below.refl _ _) 1
      have hga := rall_seg (hG.below hb0)
      obtain ⟨xl, hxl⟩ : ∃ xl, (fcat (bod s)).length = xl := ⟨_, rfl⟩
      obtain ⟨rl, hrl⟩ : ∃ rl, s.recs.length = rl := ⟨_, rfl⟩
      rw [hxl] at hga
      rw [hrl] at hto ⊢
      have HG := mkH hga
      have HF := mkH hfs
      have HXL := mkH hxl
      have HRL := mkH hrl
      clear h1 h2 h3 hl hi hG hfs hn hsg hxl e0 e1 hga hb0 hnL hsn hsL hL hrl
      go_enter Tryd.func22, Tryd.ntmps22
      go_wp2_with fail
      go_region_held3 (fun W => W.cell? ⟨R, 1, none⟩ = some (.slice (some ⟨g, off, none⟩) n cap) ∧ W.cell? ⟨g, off + L, none⟩ = some (.pointer (some ⟨D, 0, none⟩))) (first | exact HKS.out _ (below_drewN (Below.refl _ _) 1) | exact hkeep2 | exact hkeep | go_keep) (first
        | (go_at_call 46; refine HG.out.mono ?_; rintro e w1 ⟨va, vc, rfl, hb1, hr1, hk1, hk2⟩; have hb1 : Below w.heap.size w w1 := (below_drewN (Below.refl _ _) 1).trans hb1; have hkeep := HKS.out _ hb1; have HB1 := mkH hb1; have HR1 := mkH hr1; clear hb1 hr1)
        | (go_at_call 45; have hp := parse_seg w1 va vc HF.out HR1.out (by rw [HXL.out]; exact hk1) hk2; rw [HXL.out, HRL.out] at hp; refine hp.mono ?_; rintro e w2 ⟨a, c, lb, rfl, hpj⟩; have hb2 := HB1.out.trans (hpj.below.mono HB1.out.size); have hkeep2 := HKS.out _ hb2; have HB2 := mkH hb2; clear hb2 hpj hp))
      go_wp2
      go_ret
      exact ⟨by simp, HB2.out⟩
end
end Go.Proofs.YtjfbhchpgmimfaaDoor.Sgd

namespace Go.Proofs.YtjfbhchpgmimfaaDoor.Sge
open Go.RowKit Kt Cs Cf Cv Ck Ca Dk Dp Da Db Dc Dd De Sq Sr Sa Sb Sc Se Sf Sk Pl Sra Srb Dr Dr2 Dr3 Sgc Sgd
set_option linter.unusedVariables false
set_option linter.unusedSimpArgs false
set_option maxRecDepth 20000

/-- A row of slices as a source. -/
theorem Ol.src {P : Program} {tx e' : TypeId} (hk : P.underlying tx = some (.slice e')) {lo : Nat} {W : World} {a : Option Addr} {n c : Nat} {l : List Bx} (h : Ol lo W (.slice a n c) l) : n = l.length ∧ Src P 1 tx (.slice a n c) l.length (Bv l) W := by
  have hone : ∀ u ∈ Bv l, u.oneCell' = true := fun u hu => by
    obtain ⟨x, -, rfl⟩ := List.mem_map.1 hu
    rfl
  have hs := h.own
  rcases h.own.2 with ⟨e1, e2⟩ | ⟨g, c', cur, e, -, -, -⟩
  · simp only [Value.slice.injEq] at e1
    obtain ⟨rfl, rfl, rfl⟩ := e1
    have : l = [] := List.eq_nil_of_length_eq_zero e2
    subst this
    exact ⟨rfl, Src.ofNil W hk 0⟩
  · simp only [Value.slice.injEq] at e
    obtain ⟨rfl, rfl, rfl⟩ := e
    refine ⟨rfl, Src.ofSlice W hk _ _ c _ (by simp [Bv]) (fun j u hj => ?_) hone⟩
    exact h.own.cells (g := g) rfl j u hj
theorem Bv_app (l m : List Bx) : Bv (l ++ m) = Bv l ++ Bv m := by simp [Bv]
/-- Slices are appended: they were laid since lo, and lie apart from the row. -/
theorem Ol.app {lo : Nat} {W W' : World} {a : Option Addr} {k c : Nat} {v' : Value} {l l2 : List Bx} (h : Ol lo W (.slice a k c) l) (hx : ∀ x ∈ l2, Row W x.ao x.bs ∧ ∀ b off, x.ao = some ⟨b, off, none⟩ → 0 < x.bs.length → lo ≤ b ∧ (Value.slice a k c).ownBlock ≠ some b)
    (hown : W'.ownsRow lo 30 1 v' (l.length + l2.length) (Bv l ++ Bv l2)) (hf : Fr (fun q => (Value.slice a k c).ownBlock = some q) W W') (hb : v'.ownBlock = (Value.slice a k c).ownBlock ∨ ∃ q, v'.ownBlock = some q ∧ W.heap.size ≤ q) : Ol lo W' v' (l ++ l2) := by
  have hnew : ∀ y : Bx, Row W y.ao y.bs → (∀ b off, y.ao = some ⟨b, off, none⟩ → 0 < y.bs.length → lo ≤ b ∧ (Value.slice a k c).ownBlock ≠ some b) → Row W' y.ao y.bs ∧ ∀ b off, y.ao = some ⟨b, off, none⟩ → 0 < y.bs.length → lo ≤ b ∧ v'.ownBlock ≠ some b := fun y hy hl =>
    ⟨row_fr hy hf (fun h0 b off e => (hl b off e h0).2), fun b off e h0 => ⟨(hl b off e h0).1, fun hbb => by
      have hlt := bok_lt hy b off e h0
      rcases hb with z | ⟨q, z, hq⟩
      · rw [hbb] at z; exact (hl b off e h0).2 z.symm
      · rw [hbb] at z; cases z; omega⟩⟩
  refine ⟨by rw [Bv_app, List.length_append]; exact hown, fun y hy => ?_⟩
  rcases List.mem_append.1 hy with hy | hy
  · exact hnew y (h.ok y hy).1 (h.ok y hy).2
  · exact hnew y (hx y hy).1 (hx y hy).2
theorem own_weak {lo lo' e size n : Nat} {W : World} {v : Value} {xs : List Value} (h : W.ownsRow lo e size v n xs) (hl : lo' ≤ lo) : W.ownsRow lo' e size v n xs := by
  refine ⟨h.1, ?_⟩
  rcases h.2 with h1 | ⟨g, cap, cur, rfl, e2, e3⟩
  · exact .inl h1
  · exact .inr ⟨g, cap, cur, rfl, Nat.le_trans hl e2, e3⟩

/-- What Safe has ahead of the segment j. -/
def sv (l : List Sg) (j : Nat) : Nat := match j with | 0 => bas l | j + 1 => match l[j]? with | none => 0 | some t => t.first + t.recs.length
def Ful (l : List Sg) (j : Nat) : Prop := ∀ i t, i < j → l[i]? = some t → kn t - 1 = t.recs.length
theorem ful_zero (l : List Sg) : Ful l 0 := fun i t h => by omega
theorem ful_succ {l : List Sg} {j : Nat} {s : Sg} (h : Ful l j) (hs : l[j]? = some s) (he : kn s - 1 = s.recs.length) : Ful l (j + 1) := fun i t hi ht => by
  by_cases e : i = j
  · subst e; rw [hs] at ht; cases ht; exact he
  · exact h i t (by omega) ht
theorem safe_ge {N : Nat} {h : H} (hi : Inv N h) {j : Nat} {s : Sg} (hf : Ful h.segs j) (hs : h.segs[j]? = some s) : s.first ≤ h.safe := by
  have h1 := hi.ch.at j s hs
  cases j with
  | zero => have := hi.lo; rw [h1.1]; omega
  | succ j =>
    have hjl : j + 1 < h.segs.length := (List.getElem?_eq_some_iff.1 hs).1
    obtain ⟨t, ht⟩ := nth (l := h.segs) (j := j) (by omega)
    have h2 := hi.ch.at j t ht
    have h3 := hf j t (by omega) ht
    have h4 := h2.2 hjl
    have hp := hi.p1
    have h5 : s.first = t.first + h.per := by rw [h1.1, h2.1, Nat.add_mul]; omega
    rcases hi.kept t (List.mem_of_getElem? ht) with ⟨a, -⟩ | ⟨a, b⟩
    · simp only [kn, a] at h3; omega
    · simp only [kn, b] at h3; omega
theorem safe_short {N : Nat} {h : H} (hi : Inv N h) {j : Nat} {s : Sg} (hf : Ful h.segs j) (hs : h.segs[j]? = some s) (hk : kn s - 1 < s.recs.length) : h.safe = s.first + (kn s - 1) := by
  have h1 := safe_ge hi hf hs
  rcases hi.kept s (List.mem_of_getElem? hs) with ⟨a, b, -⟩ | ⟨a, b⟩
  · have : kn s = 0 := by simp only [kn, a]
    omega
  · have : kn s = min s.recs.length (h.safe - s.first) + 1 := by simp only [kn, b]
    omega
theorem safe_all {N : Nat} {h : H} (hi : Inv N h) (hf : Ful h.segs h.segs.length) : h.safe = sv h.segs h.segs.length := by
  by_cases h0 : h.segs = []
  · have := hi.hi
    have := hi.lo
    rw [h0] at *
    simp [sv, bas, top] at *
    omega
  · obtain ⟨i, s, hsn⟩ := snoc_of h0
    have hL : h.segs[i.length]? = some s := by rw [hsn]; simp
    have hn : h.segs.length = i.length + 1 := by rw [hsn]; simp
    have e : sv h.segs h.segs.length = s.first + s.recs.length := by rw [hn]; simp only [sv, hL]
    rw [e]
    have ht : top h.segs = s.first + s.recs.length := by rw [hsn, top_snoc]
    have h1 := hf i.length s (by omega) hL
    have h2 := hi.hi
    have hg := safe_ge hi (fun q t hq ht => hf q t (by omega) ht) hL
    rcases hi.kept s (List.mem_of_getElem? hL) with ⟨a, b, c⟩ | ⟨a, b⟩
    · have hk : kn s = 0 := by simp only [kn, a]
      have : s.recs = [] := List.eq_nil_of_length_eq_zero (by omega)
      exact absurd this c
    · have : kn s = min s.recs.length (h.safe - s.first) + 1 := by simp only [kn, b]
      omega
theorem sv_le {N : Nat} {h : H} (hi : Inv N h) (j : Nat) : sv h.segs j ≤ N := by
  have h1 := hi.top
  have h2 := hi.lo
  have h3 := hi.hi
  cases j with
  | zero => simp only [sv]; omega
  | succ j =>
    cases ht : h.segs[j]? with
    | none => simp only [sv, ht]; omega
    | some t => simp only [sv, ht]; have := hi.ch.first t (List.mem_of_getElem? ht); omega

section
variable {w : World} {F : Nat → Prop} {R : Nat} {h : H}
set_option maxHeartbeats 2000000 in
theorem rsafe_any {N : Nat} (hl : Rg w F R h) (hi : Inv N h) (hN : N ≤ 1000000) :
    Calls Tryd.prog 24 #[.pointer (some ⟨R, 0, none⟩)] w fun e w' => e = .returned (.int .i64 (ns h : Nat)) ∧ Below w.heap.size w w' := by
  have hba := rbase_any hl hi
  cases hd : h.dn with
  | some p =>
    have e0 : ns h = 0 := by simp [ns, hd]
    have e1 : nb h = 0 := by simp [nb, hd]
    rw [e1] at hba
    obtain ⟨ao, cap, FD, Ps, h1, -, h3⟩ := rg_down hl hd
    rw [e0]
    have HBA := mkH hba
    have HL := mkH h1
    clear h1 hl hi hba h3 e1
    go_enter Tryd.func24, Tryd.ntmps24
    go_wp2_with fail
    refine HBA.out.mono ?_
    rintro e w1 ⟨rfl, hb1⟩
    have c1 := (HL.out.below hb1).c1
    have c2 := (HL.out.below hb1).c2
    have HB1 := mkH hb1
    generalize Ps.length = n at c1
    clear hb1 HBA HL
    go_wp2_with fail
    go_loopw [3, 4] (fun nv iv W => nv = .int .i64 0 ∧ iv = .int .i64 0 ∧ w1 = W) (fun _ _ _ => 0)
    case atStart => exact ⟨rfl, rfl, rfl⟩
    case round =>
      obtain ⟨rfl, rfl, hw⟩ := hrel
      subst hw
      by_cases hn0 : n = 0
      · subst hn0
        go_wp2
        go_ret
        exact ⟨rfl, HB1.out⟩
      · have hn1 : 0 < n := by omega
        go_wp2
        go_ret
        exact ⟨rfl, HB1.out⟩
  | none =>
    have e0 : ns h = h.safe := by simp [ns, hd]
    have e1 : nb h = sv h.segs 0 := by simp [nb, hd, sv]
    rw [e1] at hba
    rw [e0]
    obtain ⟨ao, cap, FD, Ps, h1, h2, h3⟩ := rg_up hl hd
    rw [h3] at h1
    obtain ⟨n, hn⟩ : ∃ n, h.segs.length = n := ⟨_, rfl⟩
    have hn1 : n ≤ 256 := by rw [← hn]; exact hi.n
    rw [hn] at h1
    have HBA := mkH hba
    have HL := mkH h1
    have HS := mkH h2
    have HI := mkH hi
    have HN := mkH hn
    clear h1 h2 hl hi hba h3 e1 hn hd e0
    go_enter Tryd.func24, Tryd.ntmps24
    go_wp2_with fail
    refine HBA.out.mono ?_
    rintro e w1 ⟨rfl, hb1⟩
    have HB1 := mkH hb1
    clear hb1 HBA
    go_wp2_with fail
    go_loopw [3, 4] (fun nv iv W => ∃ j : Nat, j ≤ n ∧ iv = .int .i64 j ∧ nv = .int .i64 ((sv h.segs j : Nat) : Int) ∧ Hid (Below w.heap.size w W) ∧ Hid (Ful h.segs j)) (fun _ iv _ => n - (intOf iv).toNat)
    case atStart => exact ⟨0, Nat.zero_le _, rfl, rfl, HB1.out, ful_zero _⟩
    case round =>
      clear HB1
      obtain ⟨j, hj, rfl, rfl, HB, HFU⟩ := hrel
      have c1 := (HL.out.below HB.out).c1
      have c2 := (HL.out.below HB.out).c2
      by_cases hjn : j = n
      · subst hjn
        have hsv : h.safe = sv h.segs j := by have := HFU.out; rw [← HN.out] at this ⊢; exact safe_all HI.out this
        have HSV := mkH hsv
        clear hsv
        generalize sv h.segs j = X at HSV ⊢
        go_wp2
        go_ret
        exact ⟨by rw [HSV.out]; rfl, HB.out⟩
      · have hjl : j < n := by omega
        obtain ⟨s, hs⟩ := nth (l := h.segs) (j := j) (by have := HN.out; omega)
        obtain ⟨D, g, off, rfl, hc, -, G, hG, -⟩ := rg_seg (HL.out.below HB.out) (HS.out.below HB.out) (i := j) (s := dst none s) (by rw [List.getElem?_map, hs]; rfl)
        have hfs := HI.out.fits s (List.mem_of_getElem? hs)
        have hga := rall_seg hG
        obtain ⟨-, ka, kc, ra, rc, hrw⟩ := hG
        have k0 := hrw.c0
        have hkr : Row wr ka (kb s) ∧ (kb s).length ≤ kc ∧ kc ≤ 9223372036854775807 := ⟨hrw.k.1, hrw.k.2.1, hrw.k.2.2.1⟩
        have k0 : wr.cell? ⟨D, 0, none⟩ = some (.slice ka (kb s).length kc) := k0
        obtain ⟨xl, hxl⟩ : ∃ xl, (fcat (bod s)).length = xl := ⟨_, rfl⟩
        obtain ⟨rl, hrl⟩ : ∃ rl, s.recs.length = rl := ⟨_, rfl⟩
        obtain ⟨kl, hkl⟩ : ∃ kl, (kb s).length = kl := ⟨_, rfl⟩
        obtain ⟨q, hq⟩ : ∃ q, kn s - 1 = q := ⟨_, rfl⟩
        rw [hxl] at hga
        rw [hkl] at k0
        have hto : s.first + rl ≤ 1000000 := by have := HI.out.ch.first s (List.mem_of_getElem? hs); have := HI.out.top; omega
        have hqr : q ≤ rl := by have := hfs.2.2.2; omega
        have hsvb : sv h.segs j ≤ 1000000 := Nat.le_trans (sv_le HI.out j) hN
        have hnx : sv h.segs (j + 1) = s.first + rl := by simp only [sv, hs, hrl]
        have HNX := mkH hnx
        have HG := mkH hga
        have HF := mkH hfs
        have HXL := mkH hxl
        have HRL := mkH hrl
        have HKL := mkH hkl
        have HQ := mkH hq
        have HKR := mkH hkr
        have HSS := mkH hs
        have HWS := mkH (And.intro (World.block_lt_of_cell? wr _ k0) (And.intro (World.block_lt_of_cell? wr _ hc) (World.block_lt_of_cell? wr _ c1)))
        clear hs hga hrw hkr hfs hxl hrl hkl hq hnx
        generalize sv h.segs j = X at *
        go_wp2_with fail
        refine HG.out.mono ?_
        rintro e w2 ⟨va, vc, rfl, hb2, hr2, hk1, hk2⟩
        have hp := parse_seg w2 va vc HF.out hr2 (by rw [HXL.out]; exact hk1) hk2
        rw [HXL.out, HRL.out] at hp
        have HP := mkH hp
        have HB2 := mkH hb2
        clear hp hr2 hb2 HG
        go_wp2_with fail
        refine HP.out.mono ?_
        rintro e w3 ⟨a, c, lb, rfl, hpj⟩
        have hb3 : Below wr.heap.size wr w3 := HB2.out.trans (hpj.below.mono HB2.out.size)
        have d0 : w3.cell? ⟨D, 0, none⟩ = some (.slice ka kl kc) := by rw [hb3.cell (p := ⟨D, 0, none⟩) HWS.out.1]; exact k0
        have d1 : w3.cell? ⟨g, off + j, none⟩ = some (.pointer (some ⟨D, 0, none⟩)) := by rw [hb3.cell (p := ⟨g, off + j, none⟩) HWS.out.2.1]; exact hc
        have d2 : w3.cell? ⟨R, 1, none⟩ = some (.slice (some ⟨g, off, none⟩) n cap) := by rw [hb3.cell (p := ⟨R, 1, none⟩) HWS.out.2.2]; exact c1
        have hp := parse_kept w3 ka kc HF.out (HKR.out.1.below hb3) HKR.out.2.1 HKR.out.2.2
        rw [HKL.out, HQ.out] at hp
        have HP2 := mkH hp
        have HB3 := mkH (HB.out.trans (hb3.mono HB.out.size))
        clear hp hpj hb3 HP HB2 c1 c2 hc k0
        go_wp2_with fail
        refine HP2.out.mono ?_
        rintro e w4 ⟨b4, a4, c4, x4, rfl, hb4⟩
        have HB4 := mkH (HB3.out.trans (hb4.mono HB3.out.size))
        clear hb4 HP2 HB3 d0 d1 d2
        by_cases hqe : q = rl
        · subst hqe
          go_wp2_with fail
          refine ⟨⟨j + 1, by omega, by go_num, ?_, HB4, ?_⟩, by simp [intOf]; omega⟩
          · rw [HNX.out]; go_num
          · exact ful_succ HFU.out HSS.out (by rw [HQ.out, HRL.out])
        · have hql : q < rl := by omega
          have hsf := safe_short HI.out HFU.out HSS.out (by rw [HQ.out, HRL.out]; exact hql)
          rw [HQ.out] at hsf
          have HSF := mkH hsf
          clear hsf
          go_wp2
          go_ret
          exact ⟨by rw [HSF.out]; simp, HB4.out⟩
/-- The segments that are told. -/
theorem all_take {l : List Sg} {j : Nat} {s : Sg} (hs : l[j]? = some s) : all (l.take (j + 1)) = all (l.take j) ++ s.recs := by
  rw [List.take_add_one, hs]
  exact all_snoc _ _
set_option maxHeartbeats 2000000 in
theorem rrecords_up {N : Nat} (hl : Rg w F R h) (hi : Inv N h) (hN : N ≤ 1000000) (hd : h.dn = none) :
    Calls Tryd.prog 17 #[.pointer (some ⟨R, 0, none⟩)] w fun e w' => ∃ a c l, e = .returned (.slice a (all h.segs).length c) ∧ Ol w.heap.size w' (.slice a (all h.segs).length c) l ∧ l.map (·.bs) = all h.segs ∧ Below w.heap.size w w' := by
  obtain ⟨ao, cap, FD, Ps, h1, h2, h3⟩ := rg_up hl hd
  rw [h3] at h1
  obtain ⟨n, hn⟩ : ∃ n, h.segs.length = n := ⟨_, rfl⟩
  have hn1 : n ≤ 256 := by rw [← hn]; exact hi.n
  rw [hn] at h1
  have hal : ∀ j, (all (h.segs.take j)).length ≤ 1000000 := fun j => by
    have h5 : (all (h.segs.take j)).length ≤ (all h.segs).length := by
      conv => rhs; rw [← List.take_append_drop j h.segs, all_app, List.length_append]
      omega
    have := top_all0 hi.ch
    have := hi.top
    omega
  have HL := mkH h1
  have HS := mkH h2
  have HI := mkH hi
  have HN := mkH hn
  have HAL := mkH hal
  clear h1 h2 hl hi h3 hn hd hal
  go_enter Tryd.func17, Tryd.ntmps17
  go_wp2_with fail
  go_loopw [3, 4] (fun ov iv W => ∃ j K : Nat, ∃ a c lb, j ≤ n ∧ iv = .int .i64 j ∧ ov = .slice a K c ∧ Hid (Below w.heap.size w W) ∧ Hid ((all (h.segs.take j)).length = K ∧ Ol w.heap.size W (.slice a K c) lb ∧ lb.map (·.bs) = all (h.segs.take j))) (fun _ iv _ => n - (intOf iv).toNat)
  case atStart => exact ⟨0, 0, none, 0, [], Nat.zero_le _, rfl, rfl, Below.refl _ _, rfl, Ol.nil _ _, rfl⟩
  case round =>
    obtain ⟨j, K, a, c, lb, hj, rfl, rfl, HB, HO⟩ := hrel
    have c1 := (HL.out.below HB.out).c1
    have c2 := (HL.out.below HB.out).c2
    by_cases hjn : j = n
    · subst hjn
      have HEND : Hid (∃ a' c' l, Value.slice a K c = .slice a' (all h.segs).length c' ∧ Ol w.heap.size wr (.slice a' (all h.segs).length c') l ∧ l.map (·.bs) = all h.segs) := by
        obtain ⟨x1, x2, x3⟩ := HO.out
        rw [← HN.out, List.take_length] at x1 x3
        exact ⟨a, c, lb, by rw [x1], by rw [x1]; exact x2, x3⟩
      clear HO
      go_wp2
      go_ret
      obtain ⟨a', c', l, e1, e2, e3⟩ := HEND.out
      exact ⟨a', c', l, congrArg Ending.returned e1, e2, e3, HB.out⟩
    · have hjl : j < n := by omega
      obtain ⟨s, hs⟩ := nth (l := h.segs) (j := j) (by have := HN.out; omega)
      obtain ⟨D, g, off, rfl, hc, -, G, hG, -⟩ := rg_seg (HL.out.below HB.out) (HS.out.below HB.out) (i := j) (s := dst none s) (by rw [List.getElem?_map, hs]; rfl)
      have hfs := HI.out.fits s (List.mem_of_getElem? hs)
      have hga := rall_seg hG
      obtain ⟨xl, hxl⟩ : ∃ xl, (fcat (bod s)).length = xl := ⟨_, rfl⟩
      obtain ⟨rl, hrl⟩ : ∃ rl, s.recs.length = rl := ⟨_, rfl⟩
      rw [hxl] at hga
      have hto : K + rl ≤ 1000000 := by
        have := HAL.out (j + 1)
        rw [all_take hs, List.length_append, HO.out.1, hrl] at this
        exact this
      have HG := mkH hga
      have HF := mkH hfs
      have HXL := mkH hxl
      have HRL := mkH hrl
      have HSS := mkH hs
      clear hs hga hfs hxl hrl hG
      go_wp2_with fail
      refine HG.out.mono ?_
      rintro e w2 ⟨va, vc, rfl, hb2, hr2, hk1, hk2⟩
      have hp := parse_seg w2 va vc HF.out hr2 (by rw [HXL.out]; exact hk1) hk2
      rw [HXL.out] at hp
      have HP := mkH hp
      have HB2 := mkH hb2
      clear hp hr2 hb2 HG
      go_wp2_with fail
      refine HP.out.mono ?_
      rintro e w3 ⟨ra, rc, lb2, rfl, hpj⟩
      have hb3 : Below wr.heap.size wr w3 := HB2.out.trans (hpj.below.mono HB2.out.size)
      obtain ⟨hl2, hsrc⟩ := Ol.src (P := Tryd.prog) (tx := 38) Tryd.underlying38 hpj.ol
      rw [← hl2, HRL.out] at hsrc
      rw [HRL.out] at hl2 ⊢
      have hb0 := HB.out.size
      have hol3 := HO.out.2.1.below hb3
      have hlk : lb.length = K := by
        have := congrArg List.length HO.out.2.2
        rw [List.length_map, HO.out.1] at this
        exact this
      have how := hol3.own
      rw [hlk] at how
      have hx2 : ∀ x ∈ lb2, Row w3 x.ao x.bs ∧ ∀ b off, x.ao = some ⟨b, off, none⟩ → 0 < x.bs.length → w.heap.size ≤ b ∧ (Value.slice a K c).ownBlock ≠ some b := fun x hx => by
        obtain ⟨y1, y2⟩ := hpj.ol.ok x hx
        refine ⟨y1, fun b off e h0 => ⟨?_, fun hg => ?_⟩⟩
        · have := (y2 b off e h0).1; have := HB2.out.size; omega
        · have := (y2 b off e h0).1
          have := HB2.out.size
          have := (own_blk HO.out.2.1.own hg).1
          omega
      have hrec : lb2.map (·.bs) = s.recs := by have := hpj.recs; rw [List.take_of_length_le (Nat.le_refl _)] at this; exact this
      have hbb : ∀ q, (Value.slice a K c).ownBlock = some q → w.heap.size ≤ q := fun q hq => (own_blk HO.out.2.1.own hq).2
      have HSRC := mkH hsrc
      have HOL := mkH hol3
      have HOW := mkH how
      have HX2 := mkH hx2
      have HREC := mkH hrec
      have HB3 := mkH (HB.out.trans (hb3.mono HB.out.size))
      have HLK := mkH hlk
      have HL2 := mkH hl2
      have HBB := mkH hbb
      have hs3 : w.heap.size ≤ w3.heap.size := Nat.le_trans hb0 hb3.size
      clear hpj hb3 HP HB2 c1 c2 hc hsrc hol3 how hx2 hrec hlk hl2 hbb
      go_wp2_with (at_builtin; refine (wpList_append_own_src_at _ rfl (.tmp 37) (.tmp 38) 38 38 rfl w.heap.size 30 (.slice none 0 0) 1 24 Tryd.underlying38 infoB rfl (by decide) _ _ _ rfl HOW.out _ rl (Bv lb2) rfl HSRC.out ?h63 ?hby hs3 ?_))
      case h63 => unfold maxLen; omega
      case hby => omega
      intro v7 w7 hown7 hgrow7 hblk7
      obtain ⟨a7, c7, rfl⟩ := own_form hown7
      have hfr : Fr (fun q => (Value.slice a K c).ownBlock = some q) w3 w7 := fr_grown hgrow7
      have hb7 : (Value.slice a7 (K + rl) c7).ownBlock = (Value.slice a K c).ownBlock ∨ ∃ q, (Value.slice a7 (K + rl) c7).ownBlock = some q ∧ w3.heap.size ≤ q := by
        rcases hblk7 with y | y
        · exact .inl y
        · exact .inr ⟨_, y, Nat.le_refl _⟩
      have hol7 : Ol w.heap.size w7 (.slice a7 (K + rl) c7) (lb ++ lb2) := Ol.app HOL.out HX2.out (by rw [HLK.out, ← HL2.out]; exact hown7) hfr hb7
      have hbl7 : Below w.heap.size w w7 := HB3.out.trans (hfr.below HBB.out hs3)
      have H7 : Hid ((all (h.segs.take (j + 1))).length = K + rl ∧ Ol w.heap.size w7 (.slice a7 (K + rl) c7) (lb ++ lb2) ∧ (lb ++ lb2).map (·.bs) = all (h.segs.take (j + 1))) := by
        refine ⟨?_, hol7, ?_⟩
        · rw [all_take HSS.out, List.length_append, HO.out.1, HRL.out]
        · rw [all_take HSS.out, List.map_append, HO.out.2.2, HREC.out]
      have HB7 := mkH hbl7
      clear hown7 hgrow7 hblk7 hfr hb7 hol7 hbl7 HOW HSRC
      go_wp2_with fail
      exact ⟨⟨j + 1, K + rl, a7, c7, lb ++ lb2, by omega, by go_num, rfl, HB7, H7⟩, by simp [intOf]; omega⟩
theorem rrecords_down {p : Int × Int} (hl : Rg w F R h) (hd : h.dn = some p) :
    Calls Tryd.prog 17 #[.pointer (some ⟨R, 0, none⟩)] w fun e w' => e = .returned (.slice none 0 0) ∧ w' = w := by
  obtain ⟨ao, cap, FD, Ps, h1, -, h3⟩ := rg_down hl hd
  have c1 := h1.c1
  have c2 := h1.c2
  generalize Ps.length = n at c1
  clear h1 hl h3
  go_enter Tryd.func17, Tryd.ntmps17
  go_wp2_with fail
  go_loopw [3, 4] (fun ov iv W => ov = .slice none 0 0 ∧ iv = .int .i64 0 ∧ w = W) (fun _ _ _ => 0)
  case atStart => exact ⟨rfl, rfl, rfl⟩
  case round =>
    obtain ⟨rfl, rfl, hw⟩ := hrel
    subst hw
    by_cases hn0 : n = 0
    · subst hn0
      go_wp2
      go_ret
      exact ⟨rfl, rfl⟩
    · have hn1 : 0 < n := by omega
      go_wp2
      go_ret
      exact ⟨rfl, rfl⟩
end
end Go.Proofs.YtjfbhchpgmimfaaDoor.Sge

namespace Go.Proofs.YtjfbhchpgmimfaaDoor.Sgf
open Go.RowKit Kt Cs Cf Cv Ck Ca Dk Dp Da Db Dc Dd De Sq Sr Sa Sb Sc Se Sf Sk Pl Sra Srb Dr Dr2 Dr3 Sgc Sgd Sge
set_option linter.unusedVariables false
set_option linter.unusedSimpArgs false
set_option maxRecDepth 20000

theorem rl_nx {w : World} {F FD : Nat → Prop} {R per : Nat} {down : Bool} {v : Value} {Ps : List Nat} (h : Rl w F FD R per down v Ps) (i : Nat) (u : Value) : Nx F w (w.setCell ⟨R, i, none⟩ u) F := nx_own (rl_set h i u) h.own
/-- The round of a loop over the disks, in which the disk at hand is called. -/
theorem rdisk_step {w0 w : World} {F0 F FD : Nat → Prop} {R per : Nat} {down : Bool} {v : Value} {Ps : List Nat} {ss : List St} (h : Rl w F FD R per down v Ps) (hs : Rk w FD Ps ss) (hn : Nx F0 w0 w F) {i D : Nat} {s : St} (h1 : Ps[i]? = some D) (h2 : ss[i]? = some s) :
    ∃ G : Nat → Prop, Rs w G D s ∧ ∀ (w' : World) (s' : St), Ro w G D w' s' → ∃ F' FD', Rl w' F' FD' R per down v Ps ∧ Rk w' FD' Ps (ss.set i s') ∧ Nx F0 w0 w' F' := by
  obtain ⟨G, g1, g2, g3⟩ := hs.at h.fdlt h1 h2
  refine ⟨G, g1, fun w' s' ⟨G', hd, hx⟩ => ⟨Nw F w w', Nw FD w w', h.disk hx.1 g2, g3 w' G' s' hd hx, hn.trans (Nw.nx (hx.1.mono (fun k hk => (h.fd k (g2 k hk)).1)))⟩⟩

section
variable {w : World} {F : Nat → Prop} {R : Nat} {h : H}
theorem rg_ofUp {v : Value} {FD : Nat → Prop} {Ps : List Nat} (hd : h.dn = none) (h1 : Rl w F FD R h.per false v Ps) (h2 : Rk w FD Ps (h.segs.map (dst none))) : Rg w F R h := by
  refine ⟨v, FD, Ps, ?_, by rw [hd]; exact h2⟩
  simpa [hd] using h1
theorem rg_ofDn {p : Int × Int} {v : Value} {FD : Nat → Prop} {Ps : List Nat} (hd : h.dn = some p) (h1 : Rl w F FD R h.per true v Ps) (h2 : Rk w FD Ps (h.segs.map (dst (some p)))) : Rg w F R h := by
  refine ⟨v, FD, Ps, ?_, by rw [hd]; exact h2⟩
  simpa [hd] using h1

theorem rnew_any (w : World) (per : Nat) (h1 : 1 ≤ per) (h2 : per ≤ 1024) : Calls Tryd.prog 10 #[.int .i64 (per : Int)] w fun e w' => e = .returned (.tuple #[.pointer (some ⟨w.heap.size, 0, none⟩), .int .i64 0]) ∧ Rg w' (fun k => k = w.heap.size) w.heap.size ⟨per, [], 0, none⟩ ∧ Below w.heap.size w w' := by
  have t1 : decide ((per : Int) < (1 : Int)) = false := by simp; omega
  have t2 : decide ((1024 : Int) < (per : Int)) = false := by simp; omega
  have t3 : ¬ (per : Int) < 1 := by omega
  have t4 : ¬ (1024 : Int) < (per : Int) := by omega
  go_enter Tryd.func10, Tryd.ntmps10
  go_wp2
  go_ret2
  refine ⟨rfl, ⟨.slice none 0 0, fun _ => False, [], ⟨?_, rfl, fun k hk => hk.elim, ?_, Rq.nil _ _ _ _⟩, Rk.nil _ _⟩, (Below.refl _ w).alloc (Nat.le_refl _) _⟩
  · intro k hk; subst hk; simp
  · exact heap_alloc_new _ _

theorem rnew_bad (w : World) (per : Int) (h : per < 1 ∨ 1024 < per) : Calls Tryd.prog 10 #[.int .i64 per] w fun e w' => e = .returned (.tuple #[.pointer none, .int .i64 2]) ∧ w' = w := by
  go_enter Tryd.func10, Tryd.ntmps10
  rcases Int.lt_or_le per 1 with h1 | h1
  · have t1 : decide (per < (1 : Int)) = true := by simp; omega
    clear h
    go_wp2
    go_ret2
    exact ⟨rfl, rfl⟩
  · have t1 : decide (per < (1 : Int)) = false := by simp; omega
    have t2 : decide ((1024 : Int) < per) = true := by simp; omega
    have t3 : ¬ per < 1 := by omega
    have t4 : (1024 : Int) < per := by omega
    clear h
    go_wp2
    go_ret2
    exact ⟨rfl, rfl⟩

theorem rsync_down {p : Int × Int} (hl : Rg w F R h) (hd : h.dn = some p) :
    Calls Tryd.prog 39 #[.pointer (some ⟨R, 0, none⟩)] w fun e w' => e = .returned (.int .i64 10) ∧ w' = w := by
  obtain ⟨ao, cap, FD, Ps, h1, -⟩ := rg_down hl hd
  have c2 := h1.c2
  clear h1 hl
  go_enter Tryd.func39, Tryd.ntmps39
  go_wp2
  go_ret
  exact ⟨rfl, rfl⟩

set_option maxHeartbeats 1000000 in
theorem rsync_up (hl : Rg w F R h) (hn : h.segs.length ≤ 256) (hd : h.dn = none) :
    Calls Tryd.prog 39 #[.pointer (some ⟨R, 0, none⟩)] w fun e w' => e = .returned (.int .i64 0) ∧ ∃ F', Rg w' F' R (syn h) ∧ Nx F w w' F' := by
  obtain ⟨ao, cap, FD, Ps, h1, h2, h3⟩ := rg_up hl hd
  have c2 := h1.c2
  have HL := mkH h1
  have HS := mkH h2
  have HD := mkH hd
  have HN := mkH h3
  have hb : Ps.length ≤ 256 := by omega
  clear h1 h2 hl hd hn h3
  go_enter Tryd.func39, Tryd.ntmps39
  go_wp2_with fail
  go_loopw [3] (fun i W => ∃ j : Nat, j ≤ Ps.length ∧ i = .int .i64 j ∧ ∃ F1 FD1, Hid (Rl W F1 FD1 R h.per false (.slice ao Ps.length cap) Ps ∧ Rk W FD1 Ps ((h.segs.map (fun s => dst none (syg s))).take j ++ (h.segs.map (dst none)).drop j) ∧ Nx F w W F1)) (fun i _ => Ps.length - (intOf i).toNat)
  case atStart => exact ⟨0, Nat.zero_le _, rfl, F, FD, HL.out, by rw [mid_zero]; exact HS.out, Nx.refl _ _⟩
  case round =>
    obtain ⟨j, hj, rfl, F1, FD1, HI⟩ := hrel
    clear c2
    have c1 := HI.out.1.c1
    by_cases hj1 : j = Ps.length
    · subst hj1
      go_wp2
      go_ret
      obtain ⟨i1, i2, i3⟩ := HI.out
      rw [mid_end _ _ _ (by simp [HN.out]) (by simp)] at i2
      refine ⟨rfl, F1, rg_ofUp (h := syn h) HD.out (v := .slice ao Ps.length cap) (FD := FD1) (Ps := Ps) i1 ?_, i3⟩
      show Rk _ FD1 Ps ((h.segs.map syg).map (dst none))
      rw [List.map_map]
      exact i2
    · have hjl : j < Ps.length := by omega
      obtain ⟨s, hs⟩ := nth (l := h.segs) (j := j) (by have := HN.out; omega)
      obtain ⟨D, g, off, rfl, hc, hD, -⟩ := rg_seg HI.out.1 HI.out.2.1 (i := j) (s := dst none s) (by rw [mid_at _ _ _ (by simp), List.getElem?_map, hs]; rfl)
      have HV := mkH hs
      obtain ⟨G, d1, d2⟩ := rdisk_step HI.out.1 HI.out.2.1 HI.out.2.2 hD (by rw [mid_at _ _ _ (by simp), List.getElem?_map, hs]; rfl)
      have D1 := mkH d1
      have D2 := mkH d2
      clear d1 d2 hs hD
      go_wp2_with fail
      refine (rsync_any D1.out).mono ?_
      rintro e w2 ⟨rfl, hro⟩
      obtain ⟨F2, FD2, e1, e2, e3⟩ := D2.out _ _ hro
      rw [dst_syn, mid_set _ _ _ (by simp) _ (by rw [List.getElem?_map, HV.out]; rfl)] at e2
      have HI2 := mkH (And.intro e1 (And.intro e2 e3))
      clear hro e1 e2 e3 hc c1
      go_wp2_with fail
      exact ⟨⟨j + 1, by omega, by go_num, F2, FD2, HI2.out⟩, by simp [intOf]; omega⟩

theorem rcrash_down {p : Int × Int} (hl : Rg w F R h) (hd : h.dn = some p) (k f : Int) :
    Calls Tryd.prog 41 #[.pointer (some ⟨R, 0, none⟩), .int .i64 k, .int .i64 f] w fun e w' => e = .returned (.int .i64 10) ∧ w' = w := by
  obtain ⟨ao, cap, FD, Ps, h1, -⟩ := rg_down hl hd
  have c2 := h1.c2
  clear h1 hl
  go_enter Tryd.func41, Tryd.ntmps41
  go_wp2
  go_ret
  exact ⟨rfl, rfl⟩

theorem rcrash_bad (hl : Rg w F R h) (hd : h.dn = none) (k f : Int) (hk : k < 0) :
    Calls Tryd.prog 41 #[.pointer (some ⟨R, 0, none⟩), .int .i64 k, .int .i64 f] w fun e w' => e = .returned (.int .i64 2) ∧ w' = w := by
  obtain ⟨ao, cap, FD, Ps, h1, -⟩ := rg_up hl hd
  have c2 := h1.c2
  have t1 : decide (k < (0 : Int)) = true := by simp; omega
  clear h1 hl
  go_enter Tryd.func41, Tryd.ntmps41
  go_wp2
  go_ret
  exact ⟨rfl, rfl⟩

set_option maxHeartbeats 1000000 in
theorem rcrash_up (hl : Rg w F R h) (hn : h.segs.length ≤ 256) (hd : h.dn = none) (k f : Int) (hk : 0 ≤ k) (hf : f ≤ 9223372036854775807) :
    Calls Tryd.prog 41 #[.pointer (some ⟨R, 0, none⟩), .int .i64 k, .int .i64 f] w fun e w' => e = .returned (.int .i64 0) ∧ ∃ F', Rg w' F' R { h with dn := some (k, f) } ∧ Nx F w w' F' := by
  obtain ⟨ao, cap, FD, Ps, h1, h2, h3⟩ := rg_up hl hd
  have c2 := h1.c2
  have HL := mkH h1
  have HS := mkH h2
  have HN := mkH h3
  have hb : Ps.length ≤ 256 := by omega
  have t1 : decide (k < (0 : Int)) = false := by simp; omega
  have t2 : ¬ k < 0 := by omega
  have HK := mkH hk
  have HF := mkH hf
  clear h1 h2 hl hd hn h3 hk hf
  go_enter Tryd.func41, Tryd.ntmps41
  go_wp2_with fail
  go_loopw [7] (fun i W => ∃ j : Nat, j ≤ Ps.length ∧ i = .int .i64 j ∧ ∃ F1 FD1, Hid (Rl W F1 FD1 R h.per false (.slice ao Ps.length cap) Ps ∧ Rk W FD1 Ps ((h.segs.map (dst (some (k, f)))).take j ++ (h.segs.map (dst none)).drop j) ∧ Nx F w W F1)) (fun i _ => Ps.length - (intOf i).toNat)
  case atStart => exact ⟨0, Nat.zero_le _, rfl, F, FD, HL.out, by rw [mid_zero]; exact HS.out, Nx.refl _ _⟩
  case round =>
    obtain ⟨j, hj, rfl, F1, FD1, HI⟩ := hrel
    clear c2 t1 t2
    have c1 := HI.out.1.c1
    by_cases hj1 : j = Ps.length
    · subst hj1
      have c2 := HI.out.1.c2
      have f2 := HI.out.1.fz 2
      go_wp2
      go_ret
      obtain ⟨i1, i2, i3⟩ := HI.out
      rw [mid_end _ _ _ (by simp [HN.out]) (by simp)] at i2
      exact ⟨rfl, F1, rg_ofDn (h := { h with dn := some (k, f) }) rfl (i1.setDown true) (Rk.rl i2 i1 2 _), i3.trans (rl_nx i1 2 _)⟩
    · have hjl : j < Ps.length := by omega
      obtain ⟨s, hs⟩ := nth (l := h.segs) (j := j) (by have := HN.out; omega)
      obtain ⟨D, g, off, rfl, hc, hD, -⟩ := rg_seg HI.out.1 HI.out.2.1 (i := j) (s := dst none s) (by rw [mid_at _ _ _ (by simp), List.getElem?_map, hs]; rfl)
      have HV := mkH hs
      obtain ⟨G, d1, d2⟩ := rdisk_step HI.out.1 HI.out.2.1 HI.out.2.2 hD (by rw [mid_at _ _ _ (by simp), List.getElem?_map, hs]; rfl)
      have D1 := mkH d1
      have D2 := mkH d2
      clear d1 d2 hs hD
      go_wp2_with fail
      refine (rcrash_any D1.out k f HF.out).mono ?_
      rintro e w2 ⟨rfl, hro⟩
      obtain ⟨F2, FD2, e1, e2, e3⟩ := D2.out _ _ hro
      rw [dst_crs _ _ _ HK.out, mid_set _ _ _ (by simp) _ (by rw [List.getElem?_map, HV.out]; rfl)] at e2
      have HI2 := mkH (And.intro e1 (And.intro e2 e3))
      clear hro e1 e2 e3 hc c1
      go_wp2_with fail
      exact ⟨⟨j + 1, by omega, by go_num, F2, FD2, HI2.out⟩, by simp [intOf]; omega⟩

theorem rdrop_down {p : Int × Int} (hl : Rg w F R h) (hd : h.dn = some p) (n : Int) :
    Calls Tryd.prog 40 #[.pointer (some ⟨R, 0, none⟩), .int .i64 n] w fun e w' => e = .returned (.int .i64 10) ∧ w' = w := by
  obtain ⟨ao, cap, FD, Ps, h1, -⟩ := rg_down hl hd
  have c2 := h1.c2
  clear h1 hl
  go_enter Tryd.func40, Tryd.ntmps40
  go_wp2
  go_ret
  exact ⟨rfl, rfl⟩

set_option maxHeartbeats 1000000 in
theorem rdrop_bad {N : Nat} (hl : Rg w F R h) (hi : Inv N h) (hN : N ≤ 1000000) (hd : h.dn = none) (n : Int) (hn : (h.safe : Int) < n) :
    Calls Tryd.prog 40 #[.pointer (some ⟨R, 0, none⟩), .int .i64 n] w fun e w' => e = .returned (.int .i64 2) ∧ Below w.heap.size w w' := by
  obtain ⟨ao, cap, FD, Ps, h1, -⟩ := rg_up hl hd
  have c2 := h1.c2
  have hsf := rsafe_any hl hi hN
  have e0 : ns h = h.safe := by simp [ns, hd]
  rw [e0] at hsf
  have HS := mkH hsf
  have t1 : decide ((h.safe : Int) < n) = true := by simp; omega
  clear h1 hl hsf hi e0
  go_enter Tryd.func40, Tryd.ntmps40
  go_wp2_with fail
  refine HS.out.mono ?_
  rintro e w1 ⟨rfl, hb⟩
  have HB := mkH hb
  clear hb c2
  go_wp2
  go_ret
  exact ⟨rfl, HB.out⟩

theorem gone_is (hp : 1 ≤ h.per) {n : Int} {m : Nat} (hm : m = 0 ∨ ((bas h.segs + m * h.per : Nat) : Int) ≤ n) (hml : m ≤ h.segs.length - 1) (hex : h.segs.length ≤ m + 1 ∨ n < ((bas h.segs + (m + 1) * h.per : Nat) : Int)) : gone h n = m := by
  unfold gone
  by_cases h0 : n ≤ bas h.segs
  · rw [if_pos h0]
    rcases hm with x | x
    · exact x.symm
    · have h2 : m * h.per = 0 := by omega
      rcases Nat.mul_eq_zero.1 h2 with y | y <;> omega
  · rw [if_neg h0]
    have h1 : m ≤ (n.toNat - bas h.segs) / h.per := by
      rcases hm with x | x
      · rw [x]; exact Nat.zero_le _
      · exact (Nat.le_div_iff_mul_le (by omega)).2 (by omega)
    rcases hex with x | x
    · omega
    · have h2 : (n.toNat - bas h.segs) / h.per < m + 1 := (Nat.div_lt_iff_lt_mul (by omega)).2 (by omega)
      omega

set_option maxHeartbeats 2000000 in
theorem rdrop_up {N : Nat} (hl : Rg w F R h) (hi : Inv N h) (hN : N ≤ 1000000) (hd : h.dn = none) (n : Int) (hn : n ≤ (h.safe : Int)) :
    Calls Tryd.prog 40 #[.pointer (some ⟨R, 0, none⟩), .int .i64 n] w fun e w' => e = .returned (.int .i64 0) ∧ ∃ F', Rg w' F' R { h with segs := h.segs.drop (gone h n) } ∧ Nx F w w' F' := by
  obtain ⟨ao, cap, FD, Ps, h1, h2, h3⟩ := rg_up hl hd
  have c2 := h1.c2
  have hsf := rsafe_any hl hi hN
  have e0 : ns h = h.safe := by simp [ns, hd]
  rw [e0] at hsf
  have HS := mkH hsf
  have t1 : decide ((h.safe : Int) < n) = false := by simp; omega
  have t2 : ¬ (h.safe : Int) < n := by omega
  have HL := mkH h1
  have HK := mkH h2
  have HN := mkH h3
  have HI := mkH hi
  have HD := mkH hd
  have hNN : Ps.length ≤ 256 := by rw [h3]; exact hi.n
  clear h1 hl hsf hi e0 h2 h3 hd hn
  go_enter Tryd.func40, Tryd.ntmps40
  go_wp2_with fail
  refine HS.out.mono ?_
  rintro e w1 ⟨rfl, hb⟩
  have HB := mkH hb
  clear hb c2 HS
  go_wp2_with fail
  clear t1 t2
  go_loopg [5] 256 (fun gg nv W => ∃ (m L : Nat) (ao1 : Option Addr) (cap1 : Nat), m ≤ Ps.length - 1 ∧ m + L = Ps.length ∧ 256 - m ≤ gg ∧ Hid (m = 0 ∨ ((bas h.segs + m * h.per : Nat) : Int) ≤ n) ∧ Hid (Rl W F FD R h.per false (.slice ao1 L cap1) (Ps.drop m) ∧ Rk W FD (Ps.drop m) ((h.segs.drop m).map (dst none)) ∧ Nx F w W F))
  case atStart => exact ⟨0, Ps.length, ao, cap, Nat.zero_le _, by omega, by omega, .inl rfl, HL.out.below HB.out, HK.out.below HB.out, Nx.ofBelow HB.out⟩
  case round =>
    clear HB
    obtain ⟨m, L, ao1, cap1, hm1, hmL, hgg, HM, HW⟩ := hrel
    have c1 := HW.out.1.c1
    by_cases hL : L ≤ 1
    · have t3 : decide ((1 : Int) < (L : Int)) = false := by simp; omega
      have t4 : ¬ (1 : Int) < (L : Int) := by omega
      have t5 : ¬ 1 < L := by omega
      have hge : gone h n = m := gone_is HI.out.p1 HM.out (by have := HN.out; omega) (.inl (by have := HN.out; omega))
      have HGE := mkH hge
      clear hge
      go_wp2
      go_ret
      refine ⟨rfl, F, ?_, HW.out.2.2⟩
      rw [HGE.out]
      exact rg_ofUp (h := { h with segs := h.segs.drop m }) HD.out HW.out.1 HW.out.2.1
    · have hL2 : 1 < L := by omega
      have hL3 : (1 : Int) < (L : Int) := by omega
      obtain ⟨s, hs⟩ := nth (l := h.segs) (j := m + 1) (by have := HN.out; omega)
      obtain ⟨D, g, off, rfl, hc, hD, G, hG, -⟩ := rg_seg HW.out.1 HW.out.2.1 (i := 1) (s := dst none s) (by rw [List.getElem?_map, List.getElem?_drop, hs]; rfl)
      have hfs := HI.out.fits s (List.mem_of_getElem? hs)
      have hfi := (HI.out.ch.at (m + 1) s hs).1
      have hga := rall_seg hG
      obtain ⟨xl, hxl⟩ : ∃ xl, (fcat (bod s)).length = xl := ⟨_, rfl⟩
      rw [hxl] at hga
      have HG := mkH hga
      have HF := mkH hfs
      have HXL := mkH hxl
      have HFI := mkH hfi
      have hsb : s.first ≤ 1000000 := hfs.1
      clear hs hga hfs hxl hG hD hfi
      go_wp2_with fail
      refine HG.out.mono ?_
      rintro e w2 ⟨va, vc, rfl, hb2, hr2, hk1, hk2⟩
      have hp := parse_seg w2 va vc HF.out hr2 (by rw [HXL.out]; exact hk1) hk2
      rw [HXL.out] at hp
      have HP := mkH hp
      have HB2 := mkH hb2
      clear hp hr2 hb2 HG
      go_wp2_with fail
      refine HP.out.mono ?_
      rintro e w3 ⟨ra, rc, lb2, rfl, hpj⟩
      have hb3 : Below wr.heap.size wr w3 := HB2.out.trans (hpj.below.mono HB2.out.size)
      have HW3 : Hid (Rl w3 F FD R h.per false (.slice (some ⟨g, off, none⟩) L cap1) (Ps.drop m) ∧ Rk w3 FD (Ps.drop m) ((h.segs.drop m).map (dst none)) ∧ Nx F w w3 F) := ⟨HW.out.1.below hb3, HW.out.2.1.below hb3, HW.out.2.2.trans (Nx.ofBelow hb3)⟩
      have c1 := HW3.out.1.c1
      have f1 := HW3.out.1.fz 1
      clear hpj hb3 HP HB2 hc HW
      generalize s.recs.length = rl at *
      by_cases hnx : n < (s.first : Int)
      · have hge : gone h n = m := gone_is HI.out.p1 HM.out (by have := HN.out; omega) (.inr (by rw [← HFI.out]; exact hnx))
        have HGE := mkH hge
        clear hge
        go_wp2
        go_ret
        refine ⟨rfl, F, ?_, HW3.out.2.2⟩
        rw [HGE.out]
        exact rg_ofUp (h := { h with segs := h.segs.drop m }) HD.out HW3.out.1 HW3.out.2.1
      · have t3 : decide (n < (s.first : Int)) = false := by simp; omega
        obtain ⟨P0, P1, hPP⟩ : ∃ P0 P1, Ps.drop m = P0 :: P1 := by
          cases hx : Ps.drop m with
          | nil => have := congrArg List.length hx; rw [List.length_drop, List.length_nil] at this; omega
          | cons a b => exact ⟨a, b, rfl⟩
        have hP1 : P1 = Ps.drop (m + 1) := by
          have := congrArg List.tail hPP
          rw [List.tail_drop] at this
          exact this.symm
        obtain ⟨w4, hw4⟩ : ∃ w4, w3.setCell ⟨R, 1, none⟩ (.slice (some ⟨g, off + 1, none⟩) (L - 1) (cap1 - 1)) = w4 := ⟨_, rfl⟩
        have HW4 : Hid (Rl w4 F FD R h.per false (.slice (some ⟨g, off + 1, none⟩) (L - 1) (cap1 - 1)) (Ps.drop (m + 1)) ∧ Rk w4 FD (Ps.drop (m + 1)) ((h.segs.drop (m + 1)).map (dst none)) ∧ Nx F w w4 F) := by
          obtain ⟨i1, i2, i3⟩ := HW3.out
          have hq := i1.row
          rw [hPP] at hq
          have hq2 := hq.tail
          have hl1 : P1.length = L - 1 := by rw [hP1, List.length_drop]; omega
          rw [hl1, hP1] at hq2
          have hr := rl_row i1.lt i1.own i1.fd i1.heap hq2
          rw [hw4] at hr
          refine ⟨hr.1, ?_, i3.trans (nx_own hr.2 i1.own)⟩
          have h5 := i2.drop 1
          rw [List.drop_drop, ← List.map_drop, List.drop_drop] at h5
          exact h5.fr hr.2 (fun k hk e => (i1.fd k hk).2 e)
        have HM2 : Hid (m + 1 = 0 ∨ ((bas h.segs + (m + 1) * h.per : Nat) : Int) ≤ n) := .inr (by rw [← HFI.out]; omega)
        have hcl : L ≤ cap1 := by
          obtain ⟨a', c', e1, e2, -⟩ := HW3.out.1.row.form
          simp only [Value.slice.injEq] at e1
          obtain ⟨-, e3, e4⟩ := e1
          omega
        have HW4' := mkH hw4
        clear HW3 hPP hP1 hw4 HM
        go_wp2_with fail
        rw [HW4'.out]
        go_roundg (256 - (m + 1))
        case rel => exact ⟨m + 1, L - 1, some ⟨g, off + 1, none⟩, cap1 - 1, by omega, by omega, by omega, HM2, HW4⟩
        case measure => omega
end
end Go.Proofs.YtjfbhchpgmimfaaDoor.Sgf

namespace Go.Proofs.YtjfbhchpgmimfaaDoor.Sgh
open Go.RowKit Kt Cs Cf Cv Ck Ca Dk Dp Da Db Dc Dd De Sq Sr Sa Sb Sc Se Sf Sk Pl Sra Srb Dr Dr2 Dr3 Sgc Sgd Sge Sgf
set_option linter.unusedVariables false
set_option linter.unusedSimpArgs false
set_option maxRecDepth 20000

/-- A disk that was laid since w is put behind. -/
theorem rnew_seg {w W : World} {F FD : Nat → Prop} {R per : Nat} {d : Bool} {v : Value} {Ps : List Nat} {ss : List St} (h1 : Rl w F FD R per d v Ps) (h2 : Rk w FD Ps ss) (hb : Below w.heap.size w W) {D : Nat} {s0 : St} (hr : Rs W (fun k => w.heap.size ≤ k ∧ k < W.heap.size) D s0) :
    Rl W (Nw F w W) (Nw FD w W) R per d v Ps ∧ Rk W (Nw FD w W) (Ps ++ [D]) (ss ++ [s0]) ∧ Nx F w W (Nw F w W) := by
  refine ⟨?_, (h2.below hb).snoc hr (fun k hk hx => by have := h1.fdlt k hx; omega), Nw.nx (Fr.ofBelow hb)⟩
  exact h1.disk (Q := fun _ => False) (Fr.ofBelow hb) (fun _ x => x.elim)
/-- .. and its pointer into the row. -/
theorem rnew_row {W w' : World} {F FD : Nat → Prop} {R per : Nat} {d : Bool} {v v' : Value} {Ps Ps' : List Nat} {ss' : List St} (h1 : Rl W F FD R per d v Ps) (h2 : Rk W FD Ps' ss') (hf : Fr (fun k => F k ∧ k ≠ R ∧ ¬ FD k) W w') (hq : Rq w' (Nw F W w') FD R v' Ps') :
    Rl (w'.setCell ⟨R, 1, none⟩ v') (Nw F W w') FD R per d v' Ps' ∧ Rk (w'.setCell ⟨R, 1, none⟩ v') FD Ps' ss' ∧ Nx F W (w'.setCell ⟨R, 1, none⟩ v') (Nw F W w') ∧ w'.cell? ⟨R, 1, none⟩ = some v ∧ w'.frozen? ⟨R, 1, none⟩ = false := by
  have hh : w'.heap[R]? = some (.cells #[.int .i64 (per : Int), v, .bool d] 46 (0, 0)) := (hf.heap h1.rlt (fun x => x.2.1 rfl)).trans h1.heap
  obtain ⟨r1, r2⟩ := rl_row (Nw.lt h1.lt hf.size) (.inl h1.own) (fun k hk => ⟨.inl (h1.fd k hk).1, (h1.fd k hk).2⟩) hh hq
  refine ⟨r1, ?_, ?_, by rw [cell_of_row _ _ _ _ _ _ hh]; rfl, frozen_of_row w' R 1 _ _ hh⟩
  · exact (h2.fr hf (fun k hk x => x.2.2 hk)).fr r2 (fun k hk e => (h1.fd k hk).2 e)
  · have e1 : Nx F W w' (Nw F W w') := Nw.nx (hf.mono (fun k x => x.1))
    exact e1.trans (nx_own r2 (.inl h1.own))

section
variable {w : World} {F : Nat → Prop} {R : Nat} {h : H}
theorem rappend_down {p : Int × Int} (hl : Rg w F R h) (hd : h.dn = some p) (x : Value) :
    Calls Tryd.prog 38 #[.pointer (some ⟨R, 0, none⟩), x] w fun e w' => e = .returned (.tuple #[.int .i64 0, .int .i64 10]) ∧ w' = w := by
  obtain ⟨ao, cap, FD, Ps, h1, -⟩ := rg_down hl hd
  have c2 := h1.c2
  clear h1 hl
  go_enter Tryd.func38, Tryd.ntmps38
  go_wp2
  go_ret2
  exact ⟨rfl, rfl⟩

theorem app_part {N : Nat} (hi : Inv N h) (r : List UInt8) {i : List Sg} {s : Sg} (hsn : h.segs = i ++ [s]) (hf : s.recs.length < h.per) : app h r = { h with segs := i ++ [⟨s.first, s.recs ++ [r], s.kept⟩] } ∧ appErr h = 0 := by
  refine ⟨by rw [app_snoc r hsn, if_neg (by omega)], ?_⟩
  unfold appErr isFull
  rw [if_neg]
  rintro ⟨x, -⟩
  rw [hsn] at x
  simp at x
  omega

set_option maxHeartbeats 4000000 in
/-- The last segment has room. -/
theorem rappend_part {N : Nat} (hl : Rg w F R h) (hi : Inv N h) (hN : N ≤ 1000000) (hd : h.dn = none) (ao : Option Addr) (cap : Nat) (r : List UInt8) (hr : Row w ao r) (hrl : r.length ≤ 400) {i : List Sg} {s : Sg} (hsn : h.segs = i ++ [s]) (hf : s.recs.length < h.per) :
    Calls Tryd.prog 38 #[.pointer (some ⟨R, 0, none⟩), .slice ao r.length cap] w fun e w' => e = .returned (.tuple #[.int .i64 (top h.segs : Nat), .int .i64 0]) ∧ ∃ F', Rg w' F' R { h with segs := i ++ [⟨s.first, s.recs ++ [r], s.kept⟩] } ∧ Nx F w w' F' := by
  have hfr := refFrame_ok w ao cap r hr (by omega)
  have hlen := fun W (hb : Below w.heap.size w W) => rlen_any (hl.below hb) hi hN
  have e0 : nn h = top h.segs := by simp [nn, hd]
  rw [e0] at hlen
  obtain ⟨sa, scap, FD, Ps, h1, h2, h3⟩ := rg_up hl hd
  have c2 := h1.c2
  obtain ⟨L, hL⟩ : ∃ L, i.length = L := ⟨_, rfl⟩
  have hsL : h.segs[L]? = some s := by rw [hsn, ← hL]; simp
  have hfs := hi.fits s (by rw [hsn]; simp)
  obtain ⟨n, hn⟩ : ∃ n, h.segs.length = n := ⟨_, rfl⟩
  have hnL : n = L + 1 := by rw [← hn, hsn, ← hL]; simp
  have hn1 : n ≤ 256 := by rw [← hn]; exact hi.n
  rw [h3, hn] at h1
  obtain ⟨D, g, off, rfl, hc, hD, G0, hG0, hGF⟩ := rg_seg h1 h2 (i := L) (s := dst none s) (by rw [List.getElem?_map, hsL]; rfl)
  have hnz2 : ((n : Int) == 0) = false := by simp; omega
  have hnz : ¬ n = 0 := by omega
  have hn3 : (n : Int) - 1 = (L : Int) := by omega
  have hLn : L < n := by omega
  have hLn2 : (0 : Int) ≤ (L : Int) := by omega
  have hLn3 : (L : Int) < (n : Int) := by omega
  have hLn4 : IntKind.i64.wrap (L : Int) = (L : Int) := wrap_fit L (by omega)
  have hLn5 : IntKind.i64.wrap ((n : Int) - 1) = (L : Int) := by rw [hn3]; exact hLn4
  have c1 := h1.c1
  have c0 := h1.c0
  have HKS : Hid (∀ W, Below w.heap.size w W → W.cell? ⟨R, 1, none⟩ = some (.slice (some ⟨g, off, none⟩) n scap) ∧ W.cell? ⟨g, off + L, none⟩ = some (.pointer (some ⟨D, 0, none⟩)) ∧ W.cell? ⟨R, 0, none⟩ = some (.int .i64 (h.per : Int))) := fun W hW =>
    ⟨by rw [hW.cell (p := ⟨R, 1, none⟩) (World.block_lt_of_cell? w _ c1)]; exact c1, by rw [hW.cell (p := ⟨g, off + L, none⟩) (World.block_lt_of_cell? w _ hc)]; exact hc, by rw [hW.cell (p := ⟨R, 0, none⟩) (World.block_lt_of_cell? w _ c0)]; exact c0⟩
  have hga := fun W (hb : Below w.heap.size w W) => rall_seg (hG0.below hb)
  have hst : ∀ W, Below w.heap.size w W → ∃ G : Nat → Prop, Rs W G D (dst none s) ∧ ∀ w', Ro W G D w' (dst none ⟨s.first, s.recs ++ [r], s.kept⟩) → (∃ F', Rg w' F' R { h with segs := i ++ [⟨s.first, s.recs ++ [r], s.kept⟩] } ∧ Nx F w w' F') ∧ w'.cell? ⟨R, 1, none⟩ = some (.slice (some ⟨g, off, none⟩) n scap) ∧ w'.cell? ⟨g, off + L, none⟩ = some (.pointer (some ⟨D, 0, none⟩)) ∧ w'.cell? ⟨R, 0, none⟩ = some (.int .i64 (h.per : Int)) := fun W hb => by
    obtain ⟨G, d1, d2⟩ := rdisk_step (h1.below hb) (h2.below hb) (Nx.ofBelow (F := F) hb) hD (by rw [List.getElem?_map, hsL]; rfl)
    refine ⟨G, d1, fun w' hro => ?_⟩
    obtain ⟨F', FD', e1, e2, e3⟩ := d2 w' _ hro
    obtain ⟨g', off', x1, x2, -⟩ := e1.row.at hD
    simp only [Option.some.injEq, Addr.mk.injEq, and_true] at x1
    obtain ⟨rfl, rfl⟩ := x1
    refine ⟨⟨F', rg_ofUp (h := { h with segs := i ++ [⟨s.first, s.recs ++ [r], s.kept⟩] }) hd e1 ?_, e3⟩, e1.c1, x2, e1.c0⟩
    have e4 : (h.segs.map (dst none)).set L (dst none ⟨s.first, s.recs ++ [r], s.kept⟩) = (i ++ [(⟨s.first, s.recs ++ [r], s.kept⟩ : Sg)]).map (dst none) := by
      rw [hsn, List.map_append, List.set_append_right _ _ (by simp [hL]), List.map_append, List.length_map, hL, Nat.sub_self]
      rfl
    rw [e4] at e2
    exact e2
  obtain ⟨xl, hxl⟩ : ∃ xl, (fcat (bod s)).length = xl := ⟨_, rfl⟩
  obtain ⟨rl, hrlen⟩ : ∃ rl, s.recs.length = rl := ⟨_, rfl⟩
  obtain ⟨fl, hfl⟩ : ∃ fl, 12 + r.length = fl := ⟨_, rfl⟩
  have hfl2 : (Cp.frame r).length = fl := by rw [Sp.frame_pos]; exact hfl
  obtain ⟨ea, eb⟩ := dst_app hfs.2.2.2 r (by have := hfs.len; omega)
  rw [hxl] at hga
  rw [hrlen] at hf
  rw [hfl] at hfr
  obtain ⟨T, hT⟩ : ∃ T, top h.segs = T := ⟨_, rfl⟩
  rw [hT] at hlen ⊢
  have hflb : fl ≤ 412 := by omega
  have hpe : ¬ rl = h.per := by omega
  have hpe2 : ((rl : Int) == (h.per : Int)) = false := by simp; omega
  have hpb : h.per ≤ 1024 := hi.p2
  have HFR := mkH hfr
  have HLEN := mkH hlen
  have HG := mkH hga
  have HST := mkH hst
  have HF := mkH hfs
  have HXL := mkH hxl
  have HRL := mkH hrlen
  have HFL := mkH hfl2
  have HEA := mkH ea
  have HEB := mkH eb
  have HSN := mkH hsn
  have HL0 := mkH hL
  have HD := mkH hd
  clear hl hi hfr hlen e0 h1 h2 h3 hL hsL hfs hn hnL hD hG0 hGF hga hst hxl hrlen hfl hfl2 ea eb hsn hd c1 hc c0 hT hr
  generalize h.per = per at *
  go_enter Tryd.func38, Tryd.ntmps38
  go_wp2_with fail
  refine HFR.out.mono ?_
  rintro e w1 ⟨v1, rfl, hown1, hb1⟩
  obtain ⟨fa, fc, rfl⟩ := own_form hown1
  have HO1 := mkH hown1
  have HB1 := mkH hb1
  clear hown1 hb1 HFR c2
  go_wp2_with fail
  refine (HLEN.out w1 HB1.out).mono ?_
  rintro e w2 ⟨rfl, hb2⟩
  have hb12 := hb2
  have hb2 : Below w.heap.size w w2 := HB1.out.trans (hb2.mono HB1.out.size)
  have HO2 := mkH (own_below HO1.out hb12)
  have HB2 := mkH hb2
  obtain ⟨k1, k2, k3⟩ := HKS.out _ hb2
  clear hb2 HLEN HO1 HB1 hb12
  go_wp2_with fail
  go_region_held3 (fun W => W.cell? ⟨R, 1, none⟩ = some (.slice (some ⟨g, off, none⟩) n scap) ∧ W.cell? ⟨g, off + L, none⟩ = some (.pointer (some ⟨D, 0, none⟩)) ∧ W.cell? ⟨R, 0, none⟩ = some (.int .i64 (per : Int))) (first | exact HKS.out _ (below_drewN HB2.out 1) | exact hkeep2 | exact hkeep | go_keep) (first
    | (go_at_call 46; refine (HG.out _ (below_drewN HB2.out 1)).mono ?_; rintro e w3 ⟨va, vc, rfl, hb3, hr3, hj1, hj2⟩; have hb3x := hb3; have hb3 : Below w.heap.size w w3 := (below_drewN HB2.out 1).trans (hb3.mono (below_drewN HB2.out 1).size); have hkeep := HKS.out _ hb3; have HO3 := mkH (own_below HO2.out (show Below w2.heap.size w2 w3 from (below_drewN (Below.refl _ _) 1).trans hb3x)); have HB3 := mkH hb3; have HR3 := mkH hr3; clear hb3 hb3x hr3)
    | (go_at_call 45; have hp := parse_seg w3 va vc HF.out HR3.out (by rw [HXL.out]; exact hj1) hj2; rw [HXL.out, HRL.out] at hp; refine hp.mono ?_; rintro e w4 ⟨a, c, lb, rfl, hpj⟩; have hb4 := HB3.out.trans (hpj.below.mono HB3.out.size); have hkeep2 := HKS.out _ hb4; have HO4 := mkH (own_below HO3.out hpj.below); have HB4 := mkH hb4; clear hb4 hpj hp))
  obtain ⟨k4, k5, k6⟩ := hkeep2
  clear hkeep k1 k2 k3 HO2 HO3 HB2 HB3 HR3
  go_wp2_with fail
  have hb5 : Below w.heap.size w w4.drew := below_drewN HB4.out 1
  have hro5 := (Row.own HO4.out).2.2
  obtain ⟨G, g1, g2⟩ := HST.out w4.drew hb5
  have G2 := mkH g2
  have ha := rappend_any g1 fa fc (Cp.frame r) (hro5.below (below_drewN (Below.refl _ _) 1)) (by rw [HFL.out]; omega)
  rw [HEA.out, HEB.out, HFL.out] at ha
  have HA := mkH ha
  clear g1 g2 ha HST hb5 hro5 HO4
  go_region_held3 (fun W => W.cell? ⟨R, 1, none⟩ = some (.slice (some ⟨g, off, none⟩) n scap) ∧ W.cell? ⟨g, off + L, none⟩ = some (.pointer (some ⟨D, 0, none⟩)) ∧ W.cell? ⟨R, 0, none⟩ = some (.int .i64 (per : Int))) (first | exact HKS.out _ (below_drewN HB4.out 1) | exact hkeep | go_keep) (first
    | (go_at_call 65; refine HA.out.mono ?_; rintro e w6 ⟨rfl, hro⟩; have hkeep := (G2.out w6 hro).2))
  have HFI := mkH (G2.out w6 hro).1
  clear hro hkeep G2 HA k4 k5 k6
  go_wp2
  go_ret2
  exact ⟨rfl, HFI.out⟩
/-- A disk that was laid since w. -/
theorem rs_new {w w6 : World} (hb : w.heap.size ≤ w6.heap.size) {ha : Option Addr} {hl hc : Nat} {bs : List UInt8} (ho : w6.ownsRow w.heap.size 5 1 (.slice ha hl hc) hl (U bs)) (hlen : bs.length ≤ 4194304) (X : Value) :
    Rs ((w6.alloc (.cells #[.slice none 0 0, .slice ha hl hc, .bool false] 53)).alloc (.cells #[X] 54)) (fun k => w.heap.size ≤ k ∧ k < ((w6.alloc (.cells #[.slice none 0 0, .slice ha hl hc, .bool false] 53)).alloc (.cells #[X] 54)).heap.size) w6.heap.size ⟨[], bs, false⟩ := by
  have h1 : Rd w6 (fun k => w.heap.size ≤ k ∧ k < w6.heap.size) w6.heap.size ha hc bs := rd_own ho (fun k a b => ⟨⟨a, b⟩, by omega⟩)
  have hlb : hl = bs.length := (Row.own ho).1
  subst hlb
  have hba : Below w6.heap.size w6 ((w6.alloc (.cells #[.slice none 0 0, .slice ha bs.length hc, .bool false] 53)).alloc (.cells #[X] 54)) := ((Below.refl _ _).alloc (Nat.le_refl _) _).alloc (by simp) _
  have h2 := h1.kept (fun k hk _ => hba.block k hk.2)
  refine ⟨by simpa using hlen, none, 0, ha, hc, fun k hk => hk.2, ⟨hb, by simp; omega⟩, ?_, Rd.nil _ _ _, h2.mono (fun k hk => ⟨hk.1, Nat.lt_of_lt_of_le hk.2 hba.size⟩)⟩
  exact (Below.heap_alloc _ _ _ (by simp)).trans (heap_alloc_new _ _)
theorem new_app (n : Nat) (r : List UInt8) (hr : r.length ≤ 400) (hn : n ≤ 1000000) : appS ⟨[], Cp.frame (enc n), false⟩ (Cp.frame r) = dst none ⟨n, [r], none⟩ ∧ appE ⟨[], Cp.frame (enc n), false⟩ (Cp.frame r).length = 0 := by
  have h9 := enc_len9 (n := n) (by omega)
  have hf : ¬ 4194304 < ([] : List UInt8).length + (Cp.frame (enc n)).length + (Cp.frame r).length := by simp only [List.length_nil, Sp.frame_pos]; omega
  constructor
  · unfold appS
    rw [if_neg (by simp), if_neg hf]
    simp [dst, kb, rb, kn, bod, fcat]
  · unfold appE
    rw [if_neg (by simp), if_neg hf]

set_option maxHeartbeats 4000000 in
/-- The last segment is full, and there are as many as may be. -/
theorem rappend_full {N : Nat} (hl : Rg w F R h) (hi : Inv N h) (hN : N ≤ 1000000) (hd : h.dn = none) (ao : Option Addr) (cap : Nat) (r : List UInt8) (hr : Row w ao r) (hrl : r.length ≤ 400) {i : List Sg} {s : Sg} (hsn : h.segs = i ++ [s]) (hf : h.per ≤ s.recs.length) (h256 : h.segs.length = 256) :
    Calls Tryd.prog 38 #[.pointer (some ⟨R, 0, none⟩), .slice ao r.length cap] w fun e w' => e = .returned (.tuple #[.int .i64 0, .int .i64 7]) ∧ Below w.heap.size w w' := by
  have hfr := refFrame_ok w ao cap r hr (by omega)
  have hlen := fun W (hb : Below w.heap.size w W) => rlen_any (hl.below hb) hi hN
  have e0 : nn h = top h.segs := by simp [nn, hd]
  rw [e0] at hlen
  obtain ⟨sa, scap, FD, Ps, h1, h2, h3⟩ := rg_up hl hd
  have c2 := h1.c2
  obtain ⟨L, hL⟩ : ∃ L, i.length = L := ⟨_, rfl⟩
  have hsL : h.segs[L]? = some s := by rw [hsn, ← hL]; simp
  have hfs := hi.fits s (by rw [hsn]; simp)
  obtain ⟨n, hn⟩ : ∃ n, h.segs.length = n := ⟨_, rfl⟩
  have hnL : n = L + 1 := by rw [← hn, hsn, ← hL]; simp
  have hn1 : n ≤ 256 := by rw [← hn]; exact hi.n
  rw [h3, hn] at h1
  obtain ⟨D, g, off, rfl, hc, hD, G0, hG0, hGF⟩ := rg_seg h1 h2 (i := L) (s := dst none s) (by rw [List.getElem?_map, hsL]; rfl)
  have hnz2 : ((n : Int) == 0) = false := by simp; omega
  have hnz : ¬ n = 0 := by omega
  have hn3 : (n : Int) - 1 = (L : Int) := by omega
  have hLn : L < n := by omega
  have hLn2 : (0 : Int) ≤ (L : Int) := by omega
  have hLn3 : (L : Int) < (n : Int) := by omega
  have hLn4 : IntKind.i64.wrap (L : Int) = (L : Int) := wrap_fit L (by omega)
  have hLn5 : IntKind.i64.wrap ((n : Int) - 1) = (L : Int) := by rw [hn3]; exact hLn4
  have c1 := h1.c1
  have c0 := h1.c0
  have HKS : Hid (∀ W, Below w.heap.size w W → W.cell? ⟨R, 1, none⟩ = some (.slice (some ⟨g, off, none⟩) n scap) ∧ W.cell? ⟨g, off + L, none⟩ = some (.pointer (some ⟨D, 0, none⟩)) ∧ W.cell? ⟨R, 0, none⟩ = some (.int .i64 (h.per : Int))) := fun W hW =>
    ⟨by rw [hW.cell (p := ⟨R, 1, none⟩) (World.block_lt_of_cell? w _ c1)]; exact c1, by rw [hW.cell (p := ⟨g, off + L, none⟩) (World.block_lt_of_cell? w _ hc)]; exact hc, by rw [hW.cell (p := ⟨R, 0, none⟩) (World.block_lt_of_cell? w _ c0)]; exact c0⟩
  have hga := fun W (hb : Below w.heap.size w W) => rall_seg (hG0.below hb)
  obtain ⟨xl, hxl⟩ : ∃ xl, (fcat (bod s)).length = xl := ⟨_, rfl⟩
  obtain ⟨rl, hrlen⟩ : ∃ rl, s.recs.length = rl := ⟨_, rfl⟩
  obtain ⟨fl, hfl⟩ : ∃ fl, 12 + r.length = fl := ⟨_, rfl⟩
  have hfl2 : (Cp.frame r).length = fl := by rw [Sp.frame_pos]; exact hfl
  rw [hxl] at hga
  rw [hfl] at hfr
  obtain ⟨T, hT⟩ : ∃ T, top h.segs = T := ⟨_, rfl⟩
  rw [hT] at hlen
  have hflb : fl ≤ 412 := by omega
  have hpe : rl = h.per := by have := hi.ch; rw [hsn] at this; have := this.last; omega
  have hpb : h.per ≤ 1024 := hi.p2
  have HFR := mkH hfr
  have HLEN := mkH hlen
  have HG := mkH hga
  have HF := mkH hfs
  have HXL := mkH hxl
  have HRL := mkH (hrlen.trans hpe)
  have HFL := mkH hfl2
  have HN6 : Hid (n = 256) := by unfold Hid; omega
  clear hl hi hfr hlen e0 h1 h2 h3 hL hsL hfs hn hnL hD hG0 hGF hga hxl hrlen hfl hfl2 hsn hd c1 hc c0 hT hr hf hpe h256
  generalize h.per = per at *
  go_enter Tryd.func38, Tryd.ntmps38
  go_wp2_with fail
  refine HFR.out.mono ?_
  rintro e w1 ⟨v1, rfl, hown1, hb1⟩
  obtain ⟨fa, fc, rfl⟩ := own_form hown1
  have HO1 := mkH hown1
  have HB1 := mkH hb1
  clear hown1 hb1 HFR c2
  go_wp2_with fail
  refine (HLEN.out w1 HB1.out).mono ?_
  rintro e w2 ⟨rfl, hb2⟩
  have hb12 := hb2
  have hb2 : Below w.heap.size w w2 := HB1.out.trans (hb2.mono HB1.out.size)
  have HO2 := mkH (own_below HO1.out hb12)
  have HB2 := mkH hb2
  obtain ⟨k1, k2, k3⟩ := HKS.out _ hb2
  clear hb2 HLEN HO1 HB1 hb12
  go_wp2_with fail
  go_region_held3 (fun W => W.cell? ⟨R, 1, none⟩ = some (.slice (some ⟨g, off, none⟩) n scap) ∧ W.cell? ⟨g, off + L, none⟩ = some (.pointer (some ⟨D, 0, none⟩)) ∧ W.cell? ⟨R, 0, none⟩ = some (.int .i64 (per : Int))) (first | exact HKS.out _ (below_drewN HB2.out 1) | exact hkeep2 | exact hkeep | go_keep) (first
    | (go_at_call 46; refine (HG.out _ (below_drewN HB2.out 1)).mono ?_; rintro e w3 ⟨va, vc, rfl, hb3, hr3, hj1, hj2⟩; have hb3x := hb3; have hb3 : Below w.heap.size w w3 := (below_drewN HB2.out 1).trans (hb3.mono (below_drewN HB2.out 1).size); have hkeep := HKS.out _ hb3; have HO3 := mkH (own_below HO2.out (show Below w2.heap.size w2 w3 from (below_drewN (Below.refl _ _) 1).trans hb3x)); have HB3 := mkH hb3; have HR3 := mkH hr3; clear hb3 hb3x hr3)
    | (go_at_call 45; have hp := parse_seg w3 va vc HF.out HR3.out (by rw [HXL.out]; exact hj1) hj2; rw [HXL.out, HRL.out] at hp; refine hp.mono ?_; rintro e w4 ⟨a, c, lb, rfl, hpj⟩; have hb4 := HB3.out.trans (hpj.below.mono HB3.out.size); have hkeep2 := HKS.out _ hb4; have HO4 := mkH (own_below HO3.out hpj.below); have HB4 := mkH hb4; clear hb4 hpj hp))
  obtain ⟨k4, k5, k6⟩ := hkeep2
  clear hkeep k1 k2 k3 HO2 HO3 HB2 HB3 HR3
  have hn6 := HN6.out
  subst hn6
  go_wp2
  go_ret2
  exact ⟨rfl, HB4.out⟩

set_option maxHeartbeats 8000000 in
/-- The last segment is full. -/
theorem rappend_next {N : Nat} (hl : Rg w F R h) (hi : Inv N h) (hN : N ≤ 1000000) (hd : h.dn = none) (ao : Option Addr) (cap : Nat) (r : List UInt8) (hr : Row w ao r) (hrl : r.length ≤ 400) {i : List Sg} {s : Sg} (hsn : h.segs = i ++ [s]) (hf : h.per ≤ s.recs.length) (h256 : h.segs.length < 256) :
    Calls Tryd.prog 38 #[.pointer (some ⟨R, 0, none⟩), .slice ao r.length cap] w fun e w' => e = .returned (.tuple #[.int .i64 (top h.segs : Nat), .int .i64 0]) ∧ ∃ F', Rg w' F' R { h with segs := h.segs ++ [⟨top h.segs, [r], none⟩] } ∧ Nx F w w' F' := by
  have hfr := refFrame_ok w ao cap r hr (by omega)
  have hlen := fun W (hb : Below w.heap.size w W) => rlen_any (hl.below hb) hi hN
  have e0 : nn h = top h.segs := by simp [nn, hd]
  rw [e0] at hlen
  obtain ⟨sa, scap, FD, Ps, h1, h2, h3⟩ := rg_up hl hd
  have c2 := h1.c2
  obtain ⟨L, hL⟩ : ∃ L, i.length = L := ⟨_, rfl⟩
  have hsL : h.segs[L]? = some s := by rw [hsn, ← hL]; simp
  have hfs := hi.fits s (by rw [hsn]; simp)
  obtain ⟨n, hn⟩ : ∃ n, h.segs.length = n := ⟨_, rfl⟩
  have hnL : n = L + 1 := by rw [← hn, hsn, ← hL]; simp
  have hn1 : n ≤ 256 := by rw [← hn]; exact hi.n
  rw [h3, hn] at h1
  obtain ⟨D, g, off, rfl, hc, hD, G0, hG0, hGF⟩ := rg_seg h1 h2 (i := L) (s := dst none s) (by rw [List.getElem?_map, hsL]; rfl)
  have hnz2 : ((n : Int) == 0) = false := by simp; omega
  have hnz : ¬ n = 0 := by omega
  have hn3 : (n : Int) - 1 = (L : Int) := by omega
  have hLn : L < n := by omega
  have hLn2 : (0 : Int) ≤ (L : Int) := by omega
  have hLn3 : (L : Int) < (n : Int) := by omega
  have hLn4 : IntKind.i64.wrap (L : Int) = (L : Int) := wrap_fit L (by omega)
  have hLn5 : IntKind.i64.wrap ((n : Int) - 1) = (L : Int) := by rw [hn3]; exact hLn4
  have c1 := h1.c1
  have c0 := h1.c0
  have HKS : Hid (∀ W, Below w.heap.size w W → W.cell? ⟨R, 1, none⟩ = some (.slice (some ⟨g, off, none⟩) n scap) ∧ W.cell? ⟨g, off + L, none⟩ = some (.pointer (some ⟨D, 0, none⟩)) ∧ W.cell? ⟨R, 0, none⟩ = some (.int .i64 (h.per : Int))) := fun W hW =>
    ⟨by rw [hW.cell (p := ⟨R, 1, none⟩) (World.block_lt_of_cell? w _ c1)]; exact c1, by rw [hW.cell (p := ⟨g, off + L, none⟩) (World.block_lt_of_cell? w _ hc)]; exact hc, by rw [hW.cell (p := ⟨R, 0, none⟩) (World.block_lt_of_cell? w _ c0)]; exact c0⟩
  have hga := fun W (hb : Below w.heap.size w W) => rall_seg (hG0.below hb)
  obtain ⟨xl, hxl⟩ : ∃ xl, (fcat (bod s)).length = xl := ⟨_, rfl⟩
  obtain ⟨rl, hrlen⟩ : ∃ rl, s.recs.length = rl := ⟨_, rfl⟩
  obtain ⟨fl, hfl⟩ : ∃ fl, 12 + r.length = fl := ⟨_, rfl⟩
  have hfl2 : (Cp.frame r).length = fl := by rw [Sp.frame_pos]; exact hfl
  rw [hxl] at hga
  rw [hfl] at hfr
  obtain ⟨T, hT⟩ : ∃ T, top h.segs = T := ⟨_, rfl⟩
  rw [hT] at hlen
  have hflb : fl ≤ 412 := by omega
  have hpe : rl = h.per := by have := hi.ch; rw [hsn] at this; have := this.last; omega
  have hpb : h.per ≤ 1024 := hi.p2
  have HFR := mkH hfr
  have HLEN := mkH hlen
  have HG := mkH hga
  have HF := mkH hfs
  have HXL := mkH hxl
  have HRL := mkH (hrlen.trans hpe)
  have HFL := mkH hfl2
  rw [hT]
  obtain ⟨ea, eb⟩ := new_app T r (by omega) (by have := hi.top; omega)
  have h9 := enc_len9 (n := T) (by have := hi.top; omega)
  have hTb : T ≤ 1000000 := by have := hi.top; omega
  have HEA := mkH ea
  have HEB := mkH eb
  have H9 := mkH h9
  have HL := mkH h1
  have HS := mkH h2
  have HD := mkH hd
  have HPL := mkH (h3.trans hn)
  have HSL := mkH hn
  obtain ⟨per, hper⟩ : ∃ per, h.per = per := ⟨_, rfl⟩
  have HPER := mkH hper
  have hn6 : ¬ n = 256 := by omega
  have hn7 : ((n : Int) == 256) = false := by simp; omega
  rw [hper] at HL HKS HRL hpb
  clear hl hi hfr hlen e0 h1 h2 h3 hL hsL hfs hn hnL hD hG0 hGF hga hxl hrlen hfl hfl2 hsn hd c1 hc c0 hT hr hf hpe h256 h9 ea eb hper
  go_enter Tryd.func38, Tryd.ntmps38
  go_wp2_with fail
  refine HFR.out.mono ?_
  rintro e w1 ⟨v1, rfl, hown1, hb1⟩
  obtain ⟨fa, fc, rfl⟩ := own_form hown1
  have HO1 := mkH hown1
  have HB1 := mkH hb1
  clear hown1 hb1 HFR c2
  go_wp2_with fail
  refine (HLEN.out w1 HB1.out).mono ?_
  rintro e w2 ⟨rfl, hb2⟩
  have hb12 := hb2
  have hb2 : Below w.heap.size w w2 := HB1.out.trans (hb2.mono HB1.out.size)
  have HO2 := mkH (own_below HO1.out hb12)
  have HB2 := mkH hb2
  obtain ⟨k1, k2, k3⟩ := HKS.out _ hb2
  clear hb2 HLEN HO1 HB1 hb12
  go_wp2_with fail
  go_region_held3 (fun W => W.cell? ⟨R, 1, none⟩ = some (.slice (some ⟨g, off, none⟩) n scap) ∧ W.cell? ⟨g, off + L, none⟩ = some (.pointer (some ⟨D, 0, none⟩)) ∧ W.cell? ⟨R, 0, none⟩ = some (.int .i64 (per : Int))) (first | exact HKS.out _ (below_drewN HB2.out 1) | exact hkeep2 | exact hkeep | go_keep) (first
    | (go_at_call 46; refine (HG.out _ (below_drewN HB2.out 1)).mono ?_; rintro e w3 ⟨va, vc, rfl, hb3, hr3, hj1, hj2⟩; have hb3x := hb3; have hb3 : Below w.heap.size w w3 := (below_drewN HB2.out 1).trans (hb3.mono (below_drewN HB2.out 1).size); have hkeep := HKS.out _ hb3; have HO3 := mkH (own_below HO2.out (show Below w2.heap.size w2 w3 from (below_drewN (Below.refl _ _) 1).trans hb3x)); have HB3 := mkH hb3; have HR3 := mkH hr3; clear hb3 hb3x hr3)
    | (go_at_call 45; have hp := parse_seg w3 va vc HF.out HR3.out (by rw [HXL.out]; exact hj1) hj2; rw [HXL.out, HRL.out] at hp; refine hp.mono ?_; rintro e w4 ⟨a, c, lb, rfl, hpj⟩; have hb4 := HB3.out.trans (hpj.below.mono HB3.out.size); have hkeep2 := HKS.out _ hb4; have HO4 := mkH (own_below HO3.out hpj.below); have HB4 := mkH hb4; clear hb4 hpj hp))
  obtain ⟨k4, k5, k6⟩ := hkeep2
  clear hkeep k1 k2 k3 HO2 HO3 HB2 HB3 HR3
  go_wp2_with fail
  refine (Rf.refNum_ok w4 none 0 T [] (Row.nil _ _) (by simp) (by omega)).mono ?_
  rintro e w5 ⟨v5, rfl, hown5, hb5⟩
  rw [List.nil_append, List.length_nil, Nat.zero_add] at hown5
  obtain ⟨na, nc, rfl⟩ := own_form hown5
  have hb5w : Below w.heap.size w w5 := HB4.out.trans (hb5.mono HB4.out.size)
  have hfr5 := refFrame_ok w5 na nc (enc T) (Row.own hown5).2.2 (by have := H9.out; omega)
  have HO5 := mkH (own_below HO4.out hb5)
  have HB5 := mkH hb5w
  obtain ⟨el, hel⟩ : ∃ el, (enc T).length = el := ⟨_, rfl⟩
  rw [hel] at hfr5 ⊢
  have HEL := mkH hel
  have HFR5 := mkH hfr5
  clear hown5 hb5 hb5w hfr5 HO4 HB4 hel
  go_wp2_with fail
  refine HFR5.out.mono ?_
  rintro e w6 ⟨v6, rfl, hown6, hb6⟩
  obtain ⟨ha, hc6, rfl⟩ := own_form hown6
  have hb6w : Below w.heap.size w w6 := HB5.out.trans (hb6.mono HB5.out.size)
  have hown6w := own_weak hown6 HB5.out.size
  obtain ⟨hl, hhl⟩ : ∃ hl, 12 + el = hl := ⟨_, rfl⟩
  rw [hhl] at hown6w ⊢
  have hrs7 := rs_new hb6w.size hown6w (by rw [Sp.frame_pos]; have := H9.out; omega) (.pointer (some ⟨w6.heap.size, 0, none⟩))
  have hb7 : Below w.heap.size w ((w6.alloc (.cells #[.slice none 0 0, .slice ha hl hc6, .bool false] 53)).alloc (.cells #[.pointer (some ⟨w6.heap.size, 0, none⟩)] 54)) := (hb6w.alloc hb6w.size _).alloc (by simp; have := hb6w.size; omega) _
  have hb57 : Below w5.heap.size w5 ((w6.alloc (.cells #[.slice none 0 0, .slice ha hl hc6, .bool false] 53)).alloc (.cells #[.pointer (some ⟨w6.heap.size, 0, none⟩)] 54)) := (hb6.alloc hb6.size _).alloc (by simp; have := hb6.size; omega) _
  have hsrc := src_val (P := Tryd.prog) (tx := 44) (T := 54) Tryd.underlying44 (w6.alloc (.cells #[.slice none 0 0, .slice ha hl hc6, .bool false] 53)) (.pointer (some ⟨w6.heap.size, 0, none⟩)) rfl
  rw [World.size_alloc] at hsrc
  obtain ⟨n1, n2, n3⟩ := rnew_seg HL.out HS.out hb7 hrs7
  have c7 := (HL.out.below hb6w).c1
  have HO7 := mkH (own_below HO5.out hb57)
  have HN1 := mkH n1
  have HN2 := mkH n2
  have HN3 := mkH n3
  have HSRC := mkH hsrc
  have hPn : Ps.length ≤ 1000000 := by rw [HPL.out]; omega
  have hR7 := n1.rlt
  have hFD7 := n1.fdlt
  have HR7 := mkH hR7
  have HFD7 := mkH hFD7
  clear hown6 hb6 hb6w hown6w hhl hrs7 hb7 hb57 hsrc n1 n2 n3 hR7 hFD7 HO5 HB5 HFR5
  go_wp2_with (at_builtin; refine (wpList_append_rq rfl (.tmp 86) (.tmp 90) rfl (Nw F w _) (Nw FD w _) R _ Ps rfl HN1.out.row w6.heap.size _ rfl HSRC.out hPn HR7.out HFD7.out ?_))
  intro v8 w8 hf8 hq8
  generalize w6.heap.size = D7 at *
  obtain ⟨a8, c8, rfl, -⟩ := hq8.form
  rw [List.length_append, List.length_singleton, HPL.out] at hq8 ⊢
  obtain ⟨r1, r2, r3, r4, r5⟩ := rnew_row HN1.out HN2.out hf8 hq8
  have hO8 : w8.ownsRow w.heap.size 5 1 (.slice fa fl fc) fl (U (Cp.frame r)) := own_keeps HO7.out (fun g hg => hf8.heap (own_blk HO7.out hg).1 (fun x => x.2.2 (.inr (own_blk HO7.out hg).symm)))
  have hO9 : (w8.setCell ⟨R, 1, none⟩ (.slice a8 (n + 1) c8)).ownsRow w.heap.size 5 1 (.slice fa fl fc) fl (U (Cp.frame r)) := own_keeps hO8 (fun g hg => Below.heap_setCell _ _ _ _ (fun e => by have := (own_blk hO8 hg).2; have := HL.out.rlt; simp at e; omega))
  have HR1 := mkH r1
  have HR2 := mkH r2
  have HR3 := mkH (HN3.out.trans r3)
  have HO9 := mkH hO9
  obtain ⟨M, hM⟩ : ∃ M, n + 1 = M := ⟨_, rfl⟩
  rw [hM] at HR1 HR2 HR3 HO9 ⊢
  have hPD : (Ps ++ [D7])[n]? = some D7 := by rw [← HPL.out]; simp
  have q3 : (M : Int) - 1 = (n : Int) := by omega
  have q4 : n < M := by omega
  have q5 : (0 : Int) ≤ (n : Int) := by omega
  have q6 : (n : Int) < (M : Int) := by omega
  have q7 : IntKind.i64.wrap (n : Int) = (n : Int) := wrap_fit n (by omega)
  have q8 : IntKind.i64.wrap ((M : Int) - 1) = (n : Int) := by rw [q3]; exact q7
  obtain ⟨w9, hw9⟩ : ∃ w9, w8.setCell ⟨R, 1, none⟩ (.slice a8 M c8) = w9 := ⟨_, rfl⟩
  rw [hw9] at HR1 HR2 HR3 HO9
  have HW9 := mkH hw9
  obtain ⟨g8, o8, e8, z2, -⟩ := HR1.out.row.at hPD
  subst e8
  have z1 := HR1.out.c1
  have hst : ∃ G : Nat → Prop, Rs w9.drew G D7 ⟨[], Cp.frame (enc T), false⟩ ∧ ∀ w', Ro w9.drew G D7 w' (dst none ⟨T, [r], none⟩) → (∃ F', Rg w' F' R { h with segs := h.segs ++ [⟨T, [r], none⟩] } ∧ Nx F w w' F') ∧ w'.cell? ⟨R, 1, none⟩ = some (.slice (some ⟨g8, o8, none⟩) M c8) ∧ w'.cell? ⟨g8, o8 + n, none⟩ = some (.pointer (some ⟨D7, 0, none⟩)) := by
    have hbd : Below w9.heap.size w9 w9.drew := below_drewN (Below.refl _ _) 1
    obtain ⟨G, d1, d2⟩ := rdisk_step (HR1.out.below hbd) (HR2.out.below hbd) (HR3.out.trans (Nx.ofBelow hbd)) hPD (by rw [List.getElem?_append_right (by rw [List.length_map, HSL.out]; exact Nat.le_refl _), List.length_map, HSL.out, Nat.sub_self]; rfl)
    refine ⟨G, d1, fun w' hro => ?_⟩
    obtain ⟨F', FD', e1, e2, e3⟩ := d2 w' _ hro
    obtain ⟨g', off', x1, x2, -⟩ := e1.row.at hPD
    simp only [Option.some.injEq, Addr.mk.injEq, and_true] at x1
    obtain ⟨rfl, rfl⟩ := x1
    refine ⟨⟨F', rg_ofUp (h := { h with segs := h.segs ++ [⟨T, [r], none⟩] }) HD.out (by rw [HPER.out]; exact e1) ?_, e3⟩, e1.c1, x2⟩
    have e4 : (h.segs.map (dst none) ++ [(⟨[], Cp.frame (enc T), false⟩ : St)]).set n (dst none ⟨T, [r], none⟩) = (h.segs ++ [(⟨T, [r], none⟩ : Sg)]).map (dst none) := by
      rw [List.set_append_right _ _ (by rw [List.length_map, HSL.out]; exact Nat.le_refl _), List.map_append, List.length_map, HSL.out, Nat.sub_self]
      rfl
    rw [e4] at e2
    exact e2
  have HST := mkH hst
  clear hO8 hO9 r1 r2 r3 hf8 hq8 hM hw9 hst HN1 HN2 HN3 HO7 HSRC HR7 HFD7 hPD HR1 HR2 HR3
  go_wp2_with fail
  rw [HW9.out]
  clear r4 r5
  obtain ⟨G, g1, g2⟩ := HST.out
  have G2 := mkH g2
  have hap := rappend_any g1 fa fc (Cp.frame r) ((Row.own HO9.out).2.2.below (below_drewN (Below.refl _ _) 1)) (by rw [HFL.out]; omega)
  rw [HEA.out, HEB.out, HFL.out] at hap
  have HA := mkH hap
  clear g1 g2 hap HST HO9
  go_region_held3 (fun W => W.cell? ⟨R, 1, none⟩ = some (.slice (some ⟨g8, o8, none⟩) M c8) ∧ W.cell? ⟨g8, o8 + n, none⟩ = some (.pointer (some ⟨D7, 0, none⟩))) (first | exact ⟨z1, z2⟩ | exact hkeep | go_keep) (first
    | (go_at_call 65; refine HA.out.mono ?_; rintro e w10 ⟨rfl, hro⟩; have hkeep := (G2.out w10 hro).2))
  have HFI := mkH (G2.out w10 hro).1
  clear hro hkeep G2 HA z1 z2
  go_wp2
  go_ret2
  exact ⟨rfl, HFI.out⟩

set_option maxHeartbeats 8000000 in
/-- There is no segment. -/
theorem rappend_first {N : Nat} (hl : Rg w F R h) (hi : Inv N h) (hN : N ≤ 1000000) (hd : h.dn = none) (ao : Option Addr) (cap : Nat) (r : List UInt8) (hr : Row w ao r) (hrl : r.length ≤ 400) (hsn : h.segs = []) :
    Calls Tryd.prog 38 #[.pointer (some ⟨R, 0, none⟩), .slice ao r.length cap] w fun e w' => e = .returned (.tuple #[.int .i64 (top h.segs : Nat), .int .i64 0]) ∧ ∃ F', Rg w' F' R { h with segs := h.segs ++ [⟨top h.segs, [r], none⟩] } ∧ Nx F w w' F' := by
  have hfr := refFrame_ok w ao cap r hr (by omega)
  have hlen := fun W (hb : Below w.heap.size w W) => rlen_any (hl.below hb) hi hN
  have e0 : nn h = top h.segs := by simp [nn, hd]
  rw [e0] at hlen
  obtain ⟨sa, scap, FD, Ps, h1, h2, h3⟩ := rg_up hl hd
  have c2 := h1.c2
  obtain ⟨n, hn⟩ : ∃ n, h.segs.length = n := ⟨_, rfl⟩
  have hn0 : n = 0 := by rw [← hn, hsn]; rfl
  rw [h3, hn] at h1
  have c1 := h1.c1
  have HKS : Hid (∀ W, Below w.heap.size w W → W.cell? ⟨R, 1, none⟩ = some (.slice sa n scap)) := fun W hW =>
    by rw [hW.cell (p := ⟨R, 1, none⟩) (World.block_lt_of_cell? w _ c1)]; exact c1
  obtain ⟨fl, hfl⟩ : ∃ fl, 12 + r.length = fl := ⟨_, rfl⟩
  have hfl2 : (Cp.frame r).length = fl := by rw [Sp.frame_pos]; exact hfl
  rw [hfl] at hfr
  obtain ⟨T, hT⟩ : ∃ T, top h.segs = T := ⟨_, rfl⟩
  rw [hT] at hlen
  have hflb : fl ≤ 412 := by omega
  have HFR := mkH hfr
  have HLEN := mkH hlen
  have HFL := mkH hfl2
  rw [hT]
  obtain ⟨ea, eb⟩ := new_app T r (by omega) (by have := hi.top; omega)
  have h9 := enc_len9 (n := T) (by have := hi.top; omega)
  have hTb : T ≤ 1000000 := by have := hi.top; omega
  have HEA := mkH ea
  have HEB := mkH eb
  have H9 := mkH h9
  have HL := mkH h1
  have HS := mkH h2
  have HD := mkH hd
  have HPL := mkH (h3.trans hn)
  have HSL := mkH hn
  obtain ⟨per, hper⟩ : ∃ per, h.per = per := ⟨_, rfl⟩
  have HPER := mkH hper
  subst hn0
  rw [hper] at HL
  clear hl hi hfr hlen e0 h1 h2 h3 hn hfl hfl2 hsn hd c1 hT hr h9 ea eb hper
  go_enter Tryd.func38, Tryd.ntmps38
  go_wp2_with fail
  refine HFR.out.mono ?_
  rintro e w1 ⟨v1, rfl, hown1, hb1⟩
  obtain ⟨fa, fc, rfl⟩ := own_form hown1
  have HO1 := mkH hown1
  have HB1 := mkH hb1
  clear hown1 hb1 HFR c2
  go_wp2_with fail
  refine (HLEN.out w1 HB1.out).mono ?_
  rintro e w2 ⟨rfl, hb2⟩
  have hb12 := hb2
  have hb2 : Below w.heap.size w w2 := HB1.out.trans (hb2.mono HB1.out.size)
  have HO2 := mkH (own_below HO1.out hb12)
  have HB2 := mkH hb2
  have k4 := HKS.out _ hb2
  have HO4 := HO2
  have HB4 := HB2
  clear hb2 HLEN HO1 HB1 hb12 HO2 HB2
  go_wp2_with fail
  refine (Rf.refNum_ok w2 none 0 T [] (Row.nil _ _) (by simp) (by omega)).mono ?_
  rintro e w5 ⟨v5, rfl, hown5, hb5⟩
  rw [List.nil_append, List.length_nil, Nat.zero_add] at hown5
  obtain ⟨na, nc, rfl⟩ := own_form hown5
  have hb5w : Below w.heap.size w w5 := HB4.out.trans (hb5.mono HB4.out.size)
  have hfr5 := refFrame_ok w5 na nc (enc T) (Row.own hown5).2.2 (by have := H9.out; omega)
  have HO5 := mkH (own_below HO4.out hb5)
  have HB5 := mkH hb5w
  obtain ⟨el, hel⟩ : ∃ el, (enc T).length = el := ⟨_, rfl⟩
  rw [hel] at hfr5 ⊢
  have HEL := mkH hel
  have HFR5 := mkH hfr5
  clear hown5 hb5 hb5w hfr5 HO4 HB4 hel
  go_wp2_with fail
  refine HFR5.out.mono ?_
  rintro e w6 ⟨v6, rfl, hown6, hb6⟩
  obtain ⟨ha, hc6, rfl⟩ := own_form hown6
  have hb6w : Below w.heap.size w w6 := HB5.out.trans (hb6.mono HB5.out.size)
  have hown6w := own_weak hown6 HB5.out.size
  obtain ⟨hl, hhl⟩ : ∃ hl, 12 + el = hl := ⟨_, rfl⟩
  rw [hhl] at hown6w ⊢
  have hrs7 := rs_new hb6w.size hown6w (by rw [Sp.frame_pos]; have := H9.out; omega) (.pointer (some ⟨w6.heap.size, 0, none⟩))
  have hb7 : Below w.heap.size w ((w6.alloc (.cells #[.slice none 0 0, .slice ha hl hc6, .bool false] 53)).alloc (.cells #[.pointer (some ⟨w6.heap.size, 0, none⟩)] 54)) := (hb6w.alloc hb6w.size _).alloc (by simp; have := hb6w.size; omega) _
  have hb57 : Below w5.heap.size w5 ((w6.alloc (.cells #[.slice none 0 0, .slice ha hl hc6, .bool false] 53)).alloc (.cells #[.pointer (some ⟨w6.heap.size, 0, none⟩)] 54)) := (hb6.alloc hb6.size _).alloc (by simp; have := hb6.size; omega) _
  have hsrc := src_val (P := Tryd.prog) (tx := 44) (T := 54) Tryd.underlying44 (w6.alloc (.cells #[.slice none 0 0, .slice ha hl hc6, .bool false] 53)) (.pointer (some ⟨w6.heap.size, 0, none⟩)) rfl
  rw [World.size_alloc] at hsrc
  obtain ⟨n1, n2, n3⟩ := rnew_seg HL.out HS.out hb7 hrs7
  have c7 := (HL.out.below hb6w).c1
  have HO7 := mkH (own_below HO5.out hb57)
  have HN1 := mkH n1
  have HN2 := mkH n2
  have HN3 := mkH n3
  have HSRC := mkH hsrc
  have hPn : Ps.length ≤ 1000000 := by rw [HPL.out]; omega
  have hR7 := n1.rlt
  have hFD7 := n1.fdlt
  have HR7 := mkH hR7
  have HFD7 := mkH hFD7
  clear hown6 hb6 hb6w hown6w hhl hrs7 hb7 hb57 hsrc n1 n2 n3 hR7 hFD7 HO5 HB5 HFR5
  go_wp2_with (at_builtin; refine (wpList_append_rq rfl (.tmp 86) (.tmp 90) rfl (Nw F w _) (Nw FD w _) R _ Ps rfl HN1.out.row w6.heap.size _ rfl HSRC.out hPn HR7.out HFD7.out ?_))
  intro v8 w8 hf8 hq8
  generalize w6.heap.size = D7 at *
  obtain ⟨a8, c8, rfl, -⟩ := hq8.form
  rw [List.length_append, List.length_singleton, HPL.out] at hq8 ⊢
  obtain ⟨r1, r2, r3, r4, r5⟩ := rnew_row HN1.out HN2.out hf8 hq8
  have hO8 : w8.ownsRow w.heap.size 5 1 (.slice fa fl fc) fl (U (Cp.frame r)) := own_keeps HO7.out (fun g hg => hf8.heap (own_blk HO7.out hg).1 (fun x => x.2.2 (.inr (own_blk HO7.out hg).symm)))
  have hO9 : (w8.setCell ⟨R, 1, none⟩ (.slice a8 (0 + 1) c8)).ownsRow w.heap.size 5 1 (.slice fa fl fc) fl (U (Cp.frame r)) := own_keeps hO8 (fun g hg => Below.heap_setCell _ _ _ _ (fun e => by have := (own_blk hO8 hg).2; have := HL.out.rlt; simp at e; omega))
  have HR1 := mkH r1
  have HR2 := mkH r2
  have HR3 := mkH (HN3.out.trans r3)
  have HO9 := mkH hO9
  have hM : 0 + 1 = 1 := rfl
  rw [hM] at HR1 HR2 HR3 HO9 ⊢
  have hPD : (Ps ++ [D7])[0]? = some D7 := by rw [← HPL.out]; simp
  obtain ⟨w9, hw9⟩ : ∃ w9, w8.setCell ⟨R, 1, none⟩ (.slice a8 1 c8) = w9 := ⟨_, rfl⟩
  rw [hw9] at HR1 HR2 HR3 HO9
  have HW9 := mkH hw9
  obtain ⟨g8, o8, e8, z2, -⟩ := HR1.out.row.at hPD
  subst e8
  rw [Nat.add_zero] at z2
  have z1 := HR1.out.c1
  have hst : ∃ G : Nat → Prop, Rs w9.drew G D7 ⟨[], Cp.frame (enc T), false⟩ ∧ ∀ w', Ro w9.drew G D7 w' (dst none ⟨T, [r], none⟩) → (∃ F', Rg w' F' R { h with segs := h.segs ++ [⟨T, [r], none⟩] } ∧ Nx F w w' F') ∧ w'.cell? ⟨R, 1, none⟩ = some (.slice (some ⟨g8, o8, none⟩) 1 c8) ∧ w'.cell? ⟨g8, o8, none⟩ = some (.pointer (some ⟨D7, 0, none⟩)) := by
    have hbd : Below w9.heap.size w9 w9.drew := below_drewN (Below.refl _ _) 1
    obtain ⟨G, d1, d2⟩ := rdisk_step (HR1.out.below hbd) (HR2.out.below hbd) (HR3.out.trans (Nx.ofBelow hbd)) hPD (by rw [List.getElem?_append_right (by rw [List.length_map, HSL.out]; exact Nat.le_refl _), List.length_map, HSL.out, Nat.sub_self]; rfl)
    refine ⟨G, d1, fun w' hro => ?_⟩
    obtain ⟨F', FD', e1, e2, e3⟩ := d2 w' _ hro
    obtain ⟨g', off', x1, x2, -⟩ := e1.row.at hPD
    simp only [Option.some.injEq, Addr.mk.injEq, and_true] at x1
    obtain ⟨rfl, rfl⟩ := x1
    refine ⟨⟨F', rg_ofUp (h := { h with segs := h.segs ++ [⟨T, [r], none⟩] }) HD.out (by rw [HPER.out]; exact e1) ?_, e3⟩, e1.c1, x2⟩
    have e4 : (h.segs.map (dst none) ++ [(⟨[], Cp.frame (enc T), false⟩ : St)]).set 0 (dst none ⟨T, [r], none⟩) = (h.segs ++ [(⟨T, [r], none⟩ : Sg)]).map (dst none) := by
      rw [List.set_append_right _ _ (by rw [List.length_map, HSL.out]; exact Nat.le_refl _), List.map_append, List.length_map, HSL.out, Nat.sub_self]
      rfl
    rw [e4] at e2
    exact e2
  have HST := mkH hst
  have q7 : IntKind.i64.wrap (0 : Int) = 0 := by decide
  have q8 : IntKind.i64.wrap (((1 : Nat) : Int) - 1) = 0 := by decide
  have q9 : IntKind.i64.wrap ((1 : Int) - 1) = 0 := by decide
  clear hO8 hO9 r1 r2 r3 hf8 hq8 hM hw9 hst HN1 HN2 HN3 HO7 HSRC HR7 HFD7 hPD HR1 HR2 HR3
  go_wp2_with fail
  rw [HW9.out]
  clear r4 r5
  obtain ⟨G, g1, g2⟩ := HST.out
  have G2 := mkH g2
  have hap := rappend_any g1 fa fc (Cp.frame r) ((Row.own HO9.out).2.2.below (below_drewN (Below.refl _ _) 1)) (by rw [HFL.out]; omega)
  rw [HEA.out, HEB.out, HFL.out] at hap
  have HA := mkH hap
  clear g1 g2 hap HST HO9
  go_region_held3 (fun W => W.cell? ⟨R, 1, none⟩ = some (.slice (some ⟨g8, o8, none⟩) 1 c8) ∧ W.cell? ⟨g8, o8, none⟩ = some (.pointer (some ⟨D7, 0, none⟩))) (first | exact ⟨z1, z2⟩ | exact hkeep | go_keep) (first
    | (go_at_call 65; refine HA.out.mono ?_; rintro e w10 ⟨rfl, hro⟩; have hkeep := (G2.out w10 hro).2))
  have HFI := mkH (G2.out w10 hro).1
  clear hro hkeep G2 HA z1 z2
  go_wp2
  go_ret2
  exact ⟨rfl, HFI.out⟩

theorem rappend_any' {N : Nat} (hl : Rg w F R h) (hi : Inv N h) (hN : N ≤ 1000000) (hd : h.dn = none) (ao : Option Addr) (cap : Nat) (r : List UInt8) (hr : Row w ao r) (hrl : r.length ≤ 400) :
    Calls Tryd.prog 38 #[.pointer (some ⟨R, 0, none⟩), .slice ao r.length cap] w fun e w' => e = .returned (.tuple #[.int .i64 (appNum h), .int .i64 (appErr h)]) ∧ ∃ F', Rg w' F' R (app h r) ∧ Nx F w w' F' := by
  by_cases h0 : h.segs = []
  · have e1 : appErr h = 0 := by unfold appErr; rw [if_neg (by rw [h0]; simp)]
    have e2 : appNum h = (top h.segs : Int) := by unfold appNum; rw [if_pos e1]
    have e3 : app h r = { h with segs := h.segs ++ [⟨top h.segs, [r], none⟩] } := by rw [app_nil r h0, h0]; simp [top]
    rw [e1, e2, e3]
    exact rappend_first hl hi hN hd ao cap r hr hrl h0
  · obtain ⟨i, s, hsn⟩ := snoc_of h0
    by_cases hf : h.per ≤ s.recs.length
    · have hful : isFull h = true := by unfold isFull; rw [hsn]; simpa using hf
      by_cases h6 : h.segs.length = 256
      · have e1 : appErr h = 7 := by unfold appErr; rw [if_pos ⟨hful, h6⟩]
        have e2 : appNum h = 0 := by unfold appNum; rw [e1]; simp
        have e3 : app h r = h := by rw [app_snoc r hsn, if_pos hf, if_pos h6]
        rw [e1, e2, e3]
        refine (rappend_full hl hi hN hd ao cap r hr hrl hsn hf h6).mono ?_
        rintro e w' ⟨rfl, hb⟩
        exact ⟨rfl, F, hl.below hb, Nx.ofBelow hb⟩
      · have e1 : appErr h = 0 := by unfold appErr; rw [if_neg (fun x => h6 x.2)]
        have e2 : appNum h = (top h.segs : Int) := by unfold appNum; rw [if_pos e1]
        have e3 : app h r = { h with segs := h.segs ++ [⟨top h.segs, [r], none⟩] } := by rw [app_snoc r hsn, if_pos hf, if_neg h6]
        rw [e1, e2, e3]
        exact rappend_next hl hi hN hd ao cap r hr hrl hsn hf (by have := hi.n; omega)
    · obtain ⟨e3, e1⟩ := app_part hi r hsn (by omega)
      have e2 : appNum h = (top h.segs : Int) := by unfold appNum; rw [if_pos e1]
      rw [e1, e2, e3]
      exact rappend_part hl hi hN hd ao cap r hr hrl hsn (by omega)
end
end Go.Proofs.YtjfbhchpgmimfaaDoor.Sgh

namespace Go.Proofs.YtjfbhchpgmimfaaDoor.Sgi
open Go.RowKit Kt Cs Cf Cv Ck Ca Dk Dp Da Db Dc Dd De Sq Sr Sa Sb Sc Se Sf Sk Pl Sra Srb Dr Dr2 Dr3 Sgc Sgd Sge Sgf
set_option linter.unusedVariables false
set_option linter.unusedSimpArgs false
set_option maxRecDepth 20000

/-- What there is within Restart's loop: the log, its disks, and the row that grows. -/
structure Rt (w W : World) (F FD1 : Nat → Prop) (R per : Nat) (ao : Option Addr) (n cap : Nat) (Ps : List Nat) (ss : List St) (v : Value) (j : Nat) : Prop where
  lt : ∀ k, F k → k < w.heap.size
  own0 : F R
  fd : ∀ k, FD1 k → Nw F w W k ∧ k ≠ R
  heap : W.heap[R]? = some (.cells #[.int .i64 (per : Int), .slice ao n cap, .bool false] 46 (0, 0))
  row : Rq W F FD1 R (.slice ao n cap) Ps
  rk : Rk W FD1 Ps ss
  fr : Fr F w W
  own : W.ownsRow w.heap.size 54 1 v j (Pt (Ps.take j))
  blk : ∀ g, v.ownBlock = some g → ¬ FD1 g
section
variable {w W W' : World} {F FD1 : Nat → Prop} {R per : Nat} {ao : Option Addr} {n cap : Nat} {Ps : List Nat} {ss : List St} {v : Value} {j : Nat}
theorem Rt.c0 (h : Rt w W F FD1 R per ao n cap Ps ss v j) : W.cell? ⟨R, 0, none⟩ = some (.int .i64 (per : Int)) := by rw [cell_of_row _ _ _ _ _ _ h.heap]; rfl
theorem Rt.c1 (h : Rt w W F FD1 R per ao n cap Ps ss v j) : W.cell? ⟨R, 1, none⟩ = some (.slice ao n cap) := by rw [cell_of_row _ _ _ _ _ _ h.heap]; rfl
theorem Rt.f1 (h : Rt w W F FD1 R per ao n cap Ps ss v j) : W.frozen? ⟨R, 1, none⟩ = false := frozen_of_row W R 1 _ _ h.heap
theorem Rt.rlt (h : Rt w W F FD1 R per ao n cap Ps ss v j) : R < w.heap.size := h.lt R h.own0
theorem Rt.fdlt (h : Rt w W F FD1 R per ao n cap Ps ss v j) : ∀ k, FD1 k → k < W.heap.size := fun k hk => Nw.lt h.lt h.fr.size k (h.fd k hk).1
theorem Rt.below (h : Rt w W F FD1 R per ao n cap Ps ss v j) (hb : Below W.heap.size W W') : Rt w W' F FD1 R per ao n cap Ps ss v j := by
  have hs := hb.size
  have hws := h.fr.size
  refine ⟨h.lt, h.own0, fun k hk => ⟨?_, (h.fd k hk).2⟩, ?_, h.row.kept (fun g hg _ _ => hb.block g (Nat.lt_of_lt_of_le (h.lt g hg) hws)), h.rk.below hb, h.fr.trans (Fr.ofBelow (F := fun _ => False) hb) (fun _ x => x.elim), own_below h.own hb, h.blk⟩
  · rcases (h.fd k hk).1 with x | x
    · exact .inl x
    · exact .inr ⟨x.1, by omega⟩
  · rw [hb.block R (Nat.lt_of_lt_of_le h.rlt hws)]; exact h.heap
/-- The disk at hand is called. -/
theorem Rt.disk (h : Rt w W F FD1 R per ao n cap Ps ss v j) {i D : Nat} {s : St} (h1 : Ps[i]? = some D) (h2 : ss[i]? = some s) :
    ∃ G : Nat → Prop, Rs W G D s ∧ ∀ (W' : World) (s' : St), Ro W G D W' s' → Rt w W' F (Nw FD1 W W') R per ao n cap Ps (ss.set i s') v j := by
  obtain ⟨G, g1, g2, g3⟩ := h.rk.at h.fdlt h1 h2
  refine ⟨G, g1, fun W' s' ⟨G', hd, hx⟩ => ?_⟩
  have hs := hx.1.size
  have hws := h.fr.size
  have hRW : R < W.heap.size := Nat.lt_of_lt_of_le h.rlt hws
  refine ⟨h.lt, h.own0, fun k hk => ?_, ?_, ?_, g3 W' G' s' hd hx, ?_, ?_, ?_⟩
  · rcases hk with x | x
    · refine ⟨?_, (h.fd k x).2⟩
      rcases (h.fd k x).1 with y | y
      · exact .inl y
      · exact .inr ⟨y.1, by omega⟩
    · exact ⟨.inr ⟨by omega, x.2⟩, by omega⟩
  · rw [hx.1.heap hRW (fun x => (h.fd R (g2 R x)).2 rfl)]; exact h.heap
  · refine (h.row.kept (fun g a b c => hx.1.heap (Nat.lt_of_lt_of_le (h.lt g a) hws) (fun x => c (g2 g x)))).mono (fun k hk => hk) (fun k hk hn hy => ?_)
    rcases hy with y | y
    · exact hn y
    · have := h.lt k hk; omega
  · exact h.fr.trans hx.1 (fun i hi => by
      rcases (h.fd i (g2 i hi)).1 with y | y
      · exact .inl y
      · exact .inr y.1)
  · exact own_keeps h.own (fun g hg => hx.1.heap (own_blk h.own hg).1 (fun x => h.blk g hg (g2 g x)))
  · intro g hg hy
    rcases hy with y | y
    · exact h.blk g hg y
    · have := (own_blk h.own hg).1; omega
/-- Its pointer is put behind. -/
theorem Rt.app (h : Rt w W F FD1 R per ao n cap Ps ss v j) {D : Nat} (hD : Ps[j]? = some D) {v' : Value} (ho : W'.ownsRow w.heap.size 54 1 v' (j + 1) (Pt (Ps.take j) ++ [.pointer (some ⟨D, 0, none⟩)])) (hf : Fr (fun k => v.ownBlock = some k) W W') (hb : v'.ownBlock = v.ownBlock ∨ ∃ q, v'.ownBlock = some q ∧ W.heap.size ≤ q) : Rt w W' F FD1 R per ao n cap Ps ss v' (j + 1) := by
  have hs := hf.size
  have hws := h.fr.size
  have hob : ∀ g, v.ownBlock = some g → w.heap.size ≤ g := fun g hg => (own_blk h.own hg).2
  refine ⟨h.lt, h.own0, fun k hk => ⟨?_, (h.fd k hk).2⟩, ?_, ?_, h.rk.fr hf (fun k hk x => h.blk k x hk), ?_, ?_, ?_⟩
  · rcases (h.fd k hk).1 with x | x
    · exact .inl x
    · exact .inr ⟨x.1, by omega⟩
  · rw [hf.heap (Nat.lt_of_lt_of_le h.rlt hws) (fun x => by have := hob R x; have := h.rlt; omega)]; exact h.heap
  · exact h.row.kept (fun g a _ _ => hf.heap (Nat.lt_of_lt_of_le (h.lt g a) hws) (fun x => by have := hob g x; have := h.lt g a; omega))
  · exact h.fr.trans hf (fun i hi => .inr (hob i hi))
  · rw [List.take_add_one, hD]
    have : Pt (Ps.take j ++ (some D).toList) = Pt (Ps.take j) ++ [.pointer (some ⟨D, 0, none⟩)] := Pt_snoc _ _
    rw [this]
    exact ho
  · intro g hg hx
    rcases hb with y | ⟨q, y, hq⟩
    · rw [hg] at y; exact h.blk g y.symm hx
    · rw [hg] at y; cases y; have := h.fdlt g hx; omega
/-- The row that has grown takes the place of the one that was. -/
theorem Rt.done (h : Rt w W F FD1 R per ao n cap Ps ss v j) (hj : j ≤ Ps.length) : Rl (W.setCell ⟨R, 1, none⟩ v) (Nw F w W) FD1 R per false v (Ps.take j) ∧ Rk (W.setCell ⟨R, 1, none⟩ v) FD1 (Ps.take j) (ss.take j) ∧ Nx F w (W.setCell ⟨R, 1, none⟩ v) (Nw F w W) := by
  have hlen : (Ps.take j).length = j := by rw [List.length_take]; omega
  have hq : Rq W (Nw F w W) FD1 R v (Ps.take j) := by
    rcases h.own.2 with ⟨rfl, e⟩ | ⟨g, c, cur, rfl, e2, e3, e4, e5, e6, e7⟩
    · exact .inl ⟨rfl, List.eq_nil_of_length_eq_zero (by rw [hlen]; exact e)⟩
    · refine .inr ⟨g, 0, c, cur, by rw [hlen], .inr ⟨e2, block_lt e3⟩, by have := h.rlt; omega, h.blk g rfl, e3, by omega, by omega, e5, fun i u hi => ?_⟩
      have h1 : (cur.toList.take (j * 1))[i]? = (Pt (Ps.take j))[i]? := by rw [e7]
      have hil : i < j := by have := (List.getElem?_eq_some_iff.1 hi).1; rw [Pt_len, hlen] at this; exact this
      rw [List.getElem?_take, if_pos (by omega), hi] at h1
      rw [Nat.zero_add]
      simpa using h1
  obtain ⟨r1, r2⟩ := rl_row (Nw.lt h.lt h.fr.size) (.inl h.own0) h.fd h.heap hq
  exact ⟨r1, (h.rk.take j).fr r2 (fun k hk e => (h.fd k hk).2 e), (Nw.nx h.fr).trans (nx_own r2 (.inl h.own0))⟩
end

/-- What a restart finds of a segment. -/
theorem left_len {s : Sg} (hf : Fits s) (p : Int × Int) : (fcat ((bod s).take (lj s p)) ++ tl s p).length ≤ 422300 := by
  have h1 := hf.dlen (some p)
  rw [← (left_is hf p).2.2.1, List.length_append]
  exact h1
theorem parse_left0 (w : World) (va : Option Addr) (vc : Nat) {s : Sg} (hf : Fits s) (p : Int × Int) (hr : Row w va (fcat ((bod s).take (lj s p)) ++ tl s p)) (hc : (fcat ((bod s).take (lj s p)) ++ tl s p).length ≤ vc) (hcap : vc ≤ 9223372036854775807) (hj : lj s p = 0) :
    Calls Tryd.prog 45 #[.slice va (fcat ((bod s).take (lj s p)) ++ tl s p).length vc] w fun e w' => e = .returned (.tuple #[.int .i64 (-1), .slice none 0 0, .int .i64 0]) ∧ Below w.heap.size w w' := by
  have hl := left_len hf p
  have e : fcat ((bod s).take (lj s p)) ++ tl s p = tl s p := by rw [hj, List.take_zero]; rfl
  rw [e] at hr hc hl ⊢
  exact parse_none w va vc _ hr (by omega) hc hcap (left_is hf p).2.2.2
theorem parse_left (w : World) (va : Option Addr) (vc : Nat) {s : Sg} (hf : Fits s) (p : Int × Int) (hr : Row w va (fcat ((bod s).take (lj s p)) ++ tl s p)) (hc : (fcat ((bod s).take (lj s p)) ++ tl s p).length ≤ vc) (hcap : vc ≤ 9223372036854775807) {k : Nat} (hj : lj s p = k + 1) :
    Calls Tryd.prog 45 #[.slice va (fcat ((bod s).take (lj s p)) ++ tl s p).length vc] w fun e w' => ∃ a c, e = .returned (.tuple #[.int .i64 (s.first : Int), .slice a k c, .int .i64 ((fcat ((bod s).take (lj s p))).length : Nat)]) ∧ Below w.heap.size w w' := by
  have hl := left_len hf p
  have h2 := (left_is hf p).2.1
  have e : (bod s).take (lj s p) = enc s.first :: s.recs.take k := by rw [hj]; rfl
  rw [e] at hr hc hl ⊢
  have hk : (s.recs.take k).length = k := by rw [List.length_take]; omega
  have h := parse_any w va vc s.first (s.recs.take k) (tl s p) hr (by omega) hc hcap hf.1 (fun x hx => hf.2.2.1 x (List.mem_of_mem_take hx)) (left_is hf p).2.2.2
  rw [hk] at h
  refine h.mono ?_
  rintro e w' ⟨a, c, lb, rfl, hp⟩
  exact ⟨a, c, rfl, hp.below⟩
theorem rs_at {per : Nat} {p : Int × Int} {l : List Sg} {j : Nat} {s : Sg} (hs : l[j]? = some s) : rs per p (l.drop j) = if lj s p = 0 then [] else lft s p :: (if tl s p = [] ∧ lj s p = per + 1 then rs per p (l.drop (j + 1)) else []) := by
  have hj : j < l.length := (List.getElem?_eq_some_iff.1 hs).1
  have e : l.drop j = s :: l.drop (j + 1) := by
    rw [← List.getElem_cons_drop hj]
    congr 1
    rw [List.getElem?_eq_getElem hj] at hs
    exact Option.some.inj hs
  rw [e, rs]
theorem map_take_at {l : List Sg} {j : Nat} {s : Sg} (f : Sg → Sg) (hs : l[j]? = some s) : (l.take (j + 1)).map f = (l.take j).map f ++ [f s] := by
  rw [List.take_add_one, hs]; simp
/-- 'due' ahead of the segment j. -/
def du (b per j : Nat) : Int := if j = 0 then -1 else ((b + j * per : Nat) : Int)

section
variable {w : World} {F : Nat → Prop} {R : Nat} {h : H}
theorem rrestart_up (hl : Rg w F R h) (hd : h.dn = none) :
    Calls Tryd.prog 42 #[.pointer (some ⟨R, 0, none⟩)] w fun e w' => e = .returned (.int .i64 9) ∧ w' = w := by
  obtain ⟨ao, cap, FD, Ps, h1, -⟩ := rg_up hl hd
  have c2 := h1.c2
  clear h1 hl
  go_enter Tryd.func42, Tryd.ntmps42
  go_wp2
  go_ret
  exact ⟨rfl, rfl⟩

set_option maxHeartbeats 8000000 in
theorem rrestart_down {N : Nat} {p : Int × Int} (hl : Rg w F R h) (hi : Inv N h) (hN : N ≤ 1000000) (hd : h.dn = some p) :
    Calls Tryd.prog 42 #[.pointer (some ⟨R, 0, none⟩)] w fun e w' => e = .returned (.int .i64 0) ∧ ∃ F', Rg w' F' R (rst h) ∧ Nx F w w' F' := by
  obtain ⟨ao, cap, FD, Ps, h1, h2, h3⟩ := rg_down hl hd
  have c2 := h1.c2
  have f2 := h1.fz 2
  obtain ⟨n, hn⟩ : ∃ n, h.segs.length = n := ⟨_, rfl⟩
  have hn1 : n ≤ 256 := by rw [← hn]; exact hi.n
  rw [h3, hn] at h1
  have e0 : rst h = ⟨h.per, rs h.per p h.segs, top (rs h.per p h.segs), none⟩ := by unfold rst; rw [hd]
  rw [e0]
  have hp1 := hi.p1
  have hp2 := hi.p2
  obtain ⟨per, hper⟩ : ∃ per, h.per = per := ⟨_, rfl⟩
  obtain ⟨w0, hw0⟩ : ∃ w0, w.setCell ⟨R, 2, none⟩ (.bool false) = w0 := ⟨_, rfl⟩
  have hrt : Rt w w0 F FD R per ao n cap Ps ((h.segs.map (fun s => dst none (lft s p))).take 0 ++ (h.segs.map (dst (some p))).drop 0) (.slice none 0 0) 0 := by
    have k1 := h1.setDown false
    rw [hw0] at k1
    have k2 := Rk.rl h2 h1 2 (.bool false)
    rw [hw0] at k2
    have k3 := rl_set h1 2 (.bool false)
    rw [hw0] at k3
    refine ⟨h1.lt, h1.own, fun k hk => ⟨.inl (h1.fd k hk).1, (h1.fd k hk).2⟩, by rw [← hper]; exact k1.heap, k1.row, by rw [mid_zero]; exact k2, k3.mono (fun k e => by subst e; exact h1.own), ?_, fun g hg => by simp [Value.ownBlock] at hg⟩
    rw [List.take_zero]
    exact World.ownsRow_nil _ _ _ _
  have hchn := hi.ch
  have hfit := hi.fits
  have htop := hi.top
  rw [hper] at hchn hp1 hp2 ⊢
  obtain ⟨sg, hsg⟩ : ∃ sg, h.segs = sg := ⟨_, rfl⟩
  rw [hsg] at hrt hn h2 hchn hfit htop ⊢
  have hpl : Ps.length = n := by rw [h3, hsg, hn]
  obtain ⟨Bs, hBs⟩ : ∃ Bs, bas sg = Bs := ⟨_, rfl⟩
  have HRT := mkH hrt
  have HN := mkH hn
  have HCH := mkH hchn
  have HFIT := mkH hfit
  have HTOP := mkH htop
  have HPL := mkH hpl
  have HBS := mkH hBs
  have HW0 := mkH hw0
  have HEND : Hid (∀ (W : World) (v : Value) (j : Nat) (FD1 : Nat → Prop) (ss : List St), j ≤ n → Rt w W F FD1 R per ao n cap Ps ss v j → ss.take j = (sg.take j).map (fun s => dst none (lft s p)) → rs per p sg = (sg.take j).map (fun s => lft s p) → ∃ F', Rg (W.setCell ⟨R, 1, none⟩ v) F' R ⟨per, rs per p sg, top (rs per p sg), none⟩ ∧ Nx F w (W.setCell ⟨R, 1, none⟩ v) F') := fun W v j FD1 ss hj hr hss hrs => by
    obtain ⟨d1, d2, d3⟩ := hr.done (by omega)
    refine ⟨_, rg_ofUp (h := ⟨per, rs per p sg, top (rs per p sg), none⟩) rfl d1 ?_, d3⟩
    show Rk _ FD1 _ ((rs per p sg).map (dst none))
    rw [hrs, List.map_map]
    rw [hss] at d2
    exact d2
  clear h1 h2 h3 hl hi hrt hn hper hd e0 hsg hchn hfit htop hpl hBs hw0
  go_enter Tryd.func42, Tryd.ntmps42
  go_wp2_with fail
  rw [HW0.out]
  clear c2 f2
  go_loopw [3, 4, 5] (fun ov dv iv W => ∃ (j : Nat) (oa : Option Addr) (oc : Nat) (FD1 : Nat → Prop), j ≤ n ∧ iv = .int .i64 j ∧ ov = .slice oa j oc ∧ dv = .int .i64 (du Bs per j) ∧ Hid (Rt w W F FD1 R per ao n cap Ps ((sg.map (fun s => dst none (lft s p))).take j ++ (sg.map (dst (some p))).drop j) (.slice oa j oc) j ∧ rs per p sg = (sg.take j).map (fun s => lft s p) ++ rs per p (sg.drop j))) (fun _ _ iv _ => n - (intOf iv).toNat)
  case atStart => exact ⟨0, none, 0, FD, Nat.zero_le _, rfl, rfl, rfl, HRT.out, by simp⟩
  case round =>
    clear HRT HW0
    obtain ⟨j, oa, oc, FD1, hj, rfl, rfl, rfl, HI⟩ := hrel
    have c1 := HI.out.1.c1
    by_cases hjn : j = n
    · have hfin := HEND.out wr (.slice oa j oc) j FD1 _ hj HI.out.1 (by rw [List.take_append_of_le_length (by rw [List.length_take, List.length_map, HN.out]; omega), List.take_take, Nat.min_self, List.map_take]) (by have := HI.out.2; rw [List.drop_eq_nil_of_le (by rw [HN.out]; omega)] at this; simpa [rs] using this)
      have HFIN := mkH hfin
      have f1 := HI.out.1.f1
      clear hfin
      subst hjn
      generalize du Bs per j = dj
      go_wp2
      go_ret
      exact ⟨rfl, HFIN.out⟩
    · have hjl : j < n := by omega
      obtain ⟨s, hs⟩ := nth (l := sg) (j := j) (by rw [HN.out]; exact hjl)
      obtain ⟨D, hD⟩ := nth (l := Ps) (j := j) (by rw [HPL.out]; exact hjl)
      obtain ⟨g, off, rfl, hc, -⟩ := HI.out.1.row.at hD
      have hfs := HFIT.out s (List.mem_of_getElem? hs)
      have hfi := HCH.out.at j s hs
      rw [HBS.out] at hfi
      obtain ⟨G, d1, d2⟩ := HI.out.1.disk hD (by rw [mid_at _ _ _ (by simp), List.getElem?_map, hs]; rfl)
      have D1 := mkH d1
      have D2 := mkH d2
      have HS := mkH hs
      have HDD := mkH hD
      have HF := mkH hfs
      have HFI := mkH hfi
      have HRS := mkH HI.out.2
      have hdj : du Bs per j = if j = 0 then -1 else (s.first : Int) := by unfold du; rw [hfi.1]
      clear d1 d2 hs hD hfs hfi HI
      have hss0 : ∀ (ss : List St), ss.length = n → ∀ x : St, ((ss.set j x).take j) = ss.take j := fun ss hl x => by rw [List.take_set_of_le (Nat.le_refl _)]
      have hln : ((sg.map (fun s => dst none (lft s p))).take j ++ (sg.map (dst (some p))).drop j).length = n := by
        rw [List.length_append, List.length_take, List.length_drop, List.length_map, List.length_map, HN.out]; omega
      have hset := mid_set (sg.map (dst (some p))) (sg.map (fun s => dst none (lft s p))) j (by simp) (dst none (lft s p)) (by rw [List.getElem?_map, HS.out]; rfl)
      have htk : ((sg.map (fun s => dst none (lft s p))).take j ++ (sg.map (dst (some p))).drop j).take j = (sg.take j).map (fun s => dst none (lft s p)) := by
        rw [List.take_append_of_le_length (by rw [List.length_take, List.length_map, HN.out]; omega), List.take_take, Nat.min_self, List.map_take]
      have htk1 : ((sg.map (fun s => dst none (lft s p))).take (j + 1) ++ (sg.map (dst (some p))).drop (j + 1)).take (j + 1) = (sg.take (j + 1)).map (fun s => dst none (lft s p)) := by
        rw [List.take_append_of_le_length (by rw [List.length_take, List.length_map, HN.out]; omega), List.take_take, Nat.min_self, List.map_take]
      generalize (sg.map (fun s => dst none (lft s p))).take j ++ (sg.map (dst (some p))).drop j = ss at *
      have HLN := mkH hln
      have HSET := mkH hset
      have HTK := mkH htk
      have HTK1 := mkH htk1
      have HSS0 := mkH (hss0 ss hln)
      have hrs1 := dst_rst HF.out p
      obtain ⟨B, hB⟩ : ∃ B, fcat ((bod s).take (lj s p)) ++ tl s p = B := ⟨_, rfl⟩
      rw [hB] at hrs1
      have HRS1 := mkH hrs1
      have HBB := mkH hB
      have hbl := left_len HF.out p
      rw [hB] at hbl
      obtain ⟨bl, hbl2⟩ : ∃ bl, B.length = bl := ⟨_, rfl⟩
      rw [hbl2] at hbl
      have HBL := mkH hbl2
      have HDJ := mkH hdj
      clear hss0 hln hset htk htk1 hrs1 hB hbl2 hdj
      generalize du Bs per j = dj at *
      go_wp2_with fail
      refine (rrestart_any D1.out).mono ?_
      rintro e w2 ⟨rfl, hro⟩
      rw [HRS1.out] at hro
      have ht2 := D2.out w2 _ hro
      obtain ⟨G2, x1, -⟩ := ht2.disk HDD.out (s := ⟨B, [], false⟩) (by rw [List.getElem?_set_self (by rw [HLN.out]; exact hjl)])
      have hall := rall_any x1
      rw [List.append_nil] at hall
      rw [HBL.out] at hall
      have HAL := mkH hall
      have HT2 := mkH ht2
      have c2 := ht2.c1
      obtain ⟨g', off', y1, y2, -⟩ := ht2.row.at HDD.out
      simp only [Option.some.injEq, Addr.mk.injEq, and_true] at y1
      obtain ⟨rfl, rfl⟩ := y1
      clear hro ht2 x1 hall D1 D2 c1 hc
      generalize rstE (dst (some p) s) = re at *
      go_wp2_with fail
      refine HAL.out.mono ?_
      rintro e w3 ⟨va, vc, rfl, hb3, hown3⟩
      have hr3 := Row.own hown3
      have hown3c := own_cap hown3
      have HT3 := mkH (HT2.out.below hb3)
      have HR3 := mkH hr3
      have HC3 := mkH hown3c
      clear hb3 hown3 hr3 hown3c HAL HT2 c2 y2
      cases hlj : lj s p with
      | zero =>
        have hp3 := parse_left0 w3 va vc HF.out p (by rw [HBB.out]; exact HR3.out.2.2) (by rw [HBB.out, HBL.out]; exact HR3.out.2.1) HC3.out hlj
        rw [HBB.out, HBL.out] at hp3
        have HP3 := mkH hp3
        have HLJ := mkH hlj
        clear hp3 hlj
        go_wp2_with fail
        refine HP3.out.mono ?_
        rintro e w4 ⟨rfl, hb4⟩
        have ht4 := HT3.out.below hb4
        have c4 := ht4.c1
        have f4 := ht4.f1
        have hfin := HEND.out w4 (.slice oa j oc) j _ _ hj ht4 (by rw [HSS0.out, HTK.out]) (by have := HRS.out; rw [rs_at HS.out, if_pos HLJ.out, List.append_nil] at this; exact this)
        have HFIN := mkH hfin
        clear ht4 hfin hb4 HP3 HT3
        go_wp2
        go_ret
        exact ⟨rfl, HFIN.out⟩
      | succ k =>
        have hp3 := parse_left w3 va vc HF.out p (by rw [HBB.out]; exact HR3.out.2.2) (by rw [HBB.out, HBL.out]; exact HR3.out.2.1) HC3.out hlj
        rw [HBB.out, HBL.out] at hp3
        obtain ⟨el, hel⟩ : ∃ el, (fcat ((bod s).take (lj s p))).length = el := ⟨_, rfl⟩
        rw [hel] at hp3
        have hcut := cut_lft HF.out p (by omega)
        rw [HBB.out, hel] at hcut
        have helb : el ≤ bl := by rw [← hel, ← HBL.out, ← HBB.out, List.length_append]; omega
        have heq : el = bl ↔ tl s p = [] := by
          rw [← hel, ← HBL.out, ← HBB.out, List.length_append]
          constructor
          · intro x; exact List.eq_nil_of_length_eq_zero (by omega)
          · intro x; rw [x]; simp
        have hkp : k ≤ per := by have := (left_is HF.out p).2.1; have := HCH.out.all s (List.mem_of_getElem? HS.out); omega
        have hfb : s.first + k ≤ 1000000 := by have := (left_is HF.out p).2.1; have := HCH.out.first s (List.mem_of_getElem? HS.out); have := HTOP.out; omega
        have hdu : (s.first : Int) + (per : Int) = du Bs per (j + 1) := by
          have := HFI.out.1
          unfold du
          rw [if_neg (by omega), this, Nat.add_mul]
          omega
        have hrs2 := HRS.out
        rw [rs_at HS.out, if_neg (by omega)] at hrs2
        have HP3 := mkH hp3
        have HCUT := mkH hcut
        have HEQ := mkH heq
        have HDU := mkH hdu
        have HRS2 := mkH hrs2
        have HLJ := mkH hlj
        clear hp3 hlj hel hcut heq hdu hrs2 HRS
        have hcase : dj = -1 ∨ dj = (s.first : Int) := by
          have := HDJ.out
          by_cases h0 : j = 0
          · rw [if_pos h0] at this; exact .inl this
          · rw [if_neg h0] at this; exact .inr this
        clear HDJ
        rcases hcase with rfl | rfl
        · go_wp2_with fail
          refine HP3.out.mono ?_
          rintro e w4 ⟨ra, rc, rfl, hb4⟩
          have ht4 := HT3.out.below hb4
          have c4 := ht4.c1
          obtain ⟨g', off', y1, y2, -⟩ := ht4.row.at HDD.out
          simp only [Option.some.injEq, Addr.mk.injEq, and_true] at y1
          obtain ⟨rfl, rfl⟩ := y1
          obtain ⟨G4, x1, x2⟩ := ht4.disk HDD.out (s := ⟨B, [], false⟩) (by rw [List.getElem?_set_self (by rw [HLN.out]; exact hjl)])
          have hct := rcut_any x1 (el : Int)
          rw [HCUT.out] at hct
          have HCT := mkH hct
          have HX2 := mkH x2
          clear ht4 x1 x2 hct hb4 HP3 HT3
          generalize cutE ⟨B, [], false⟩ (el : Int) = ce at *
          go_wp2_with fail
          refine HCT.out.mono ?_
          rintro e w5 ⟨rfl, hro⟩
          have ht5 := HX2.out w5 _ hro
          rw [List.set_set, HSET.out] at ht5
          have c5 := ht5.c1
          have c50 := ht5.c0
          obtain ⟨g', off', z1, z2, -⟩ := ht5.row.at HDD.out
          simp only [Option.some.injEq, Addr.mk.injEq, and_true] at z1
          obtain ⟨rfl, rfl⟩ := z1
          have HT5 := mkH ht5
          have HO5 := mkH ht5.own
          have hs5 : w.heap.size ≤ w5.heap.size := ht5.fr.size
          clear ht5 hro HCT HX2 c4 y2
          go_wp2_with (at_builtin; refine (wpList_append_own_src_at _ rfl (.tmp 69) (.tmp 77) 44 44 rfl w.heap.size 54 (.pointer none) 1 8 Tryd.underlying44 infoR rfl (by decide) _ _ _ rfl (own_below HO5.out ((Below.refl _ _).alloc (Nat.le_refl _) _)) _ 1 [.pointer (some ⟨D, 0, none⟩)] rfl (src_val Tryd.underlying44 _ _ rfl) ?h63 ?hby ?hbs ?_))
          case h63 => unfold maxLen; omega
          case hby => omega
          case hbs => simp; omega
          intro v7 w7 hown7 hgrow7 hblk7
          obtain ⟨a7, c7, rfl⟩ := own_form hown7
          have hfr7 : Fr (fun k => (Value.slice oa j oc).ownBlock = some k) w5 w7 := ((Fr.refl _ _).alloc _).trans (fr_grown hgrow7) (fun i hi => .inl hi)
          have hb7 : (Value.slice a7 (j + 1) c7).ownBlock = (Value.slice oa j oc).ownBlock ∨ ∃ q, (Value.slice a7 (j + 1) c7).ownBlock = some q ∧ w5.heap.size ≤ q := by
            rcases hblk7 with y | y
            · exact .inl y
            · exact .inr ⟨_, y, by simp⟩
          have ht7 := HT5.out.app HDD.out hown7 hfr7 hb7
          have c71 := ht7.c1
          have c70 := ht7.c0
          have f71 := ht7.f1
          have HT7 := mkH ht7
          clear hown7 hgrow7 hblk7 hfr7 hb7 ht7 HT5 HO5 c5 c50 z2
          by_cases hcont : el = bl ∧ k = per
          · obtain ⟨rfl, rfl⟩ := hcont
            have htl := HEQ.out.1 rfl
            have hrs3 := HRS2.out
            rw [if_pos ⟨htl, HLJ.out⟩] at hrs3
            have hnew : rs k p sg = (sg.take (j + 1)).map (fun s => lft s p) ++ rs k p (sg.drop (j + 1)) := by
              rw [map_take_at _ HS.out, List.append_assoc]; exact hrs3
            have HNEW := mkH hnew
            clear hrs3 hnew htl f71
            go_wp2_with fail
            refine ⟨⟨j + 1, a7, c7, _, by omega, by go_num, rfl, ?_, HT7.out, HNEW.out⟩, by simp [intOf]; omega⟩
            rw [← HDU.out]
          · have hrs3 := HRS2.out
            rw [if_neg (fun x => hcont ⟨HEQ.out.2 x.1, by have := HLJ.out; have := x.2; omega⟩)] at hrs3
            have hfin := HEND.out w7 (.slice a7 (j + 1) c7) (j + 1) _ _ (by omega) HT7.out HTK1.out (by rw [map_take_at _ HS.out]; exact hrs3)
            have HFIN := mkH hfin
            clear hrs3 hfin HT7
            by_cases hlt : el < bl
            · go_wp2
              go_ret
              exact ⟨rfl, HFIN.out⟩
            · have he2 : el = bl := by omega
              have hk2 : k < per := by omega
              have hlt2 : decide ((el : Int) < (bl : Int)) = false := by simp; omega
              subst he2
              go_wp2
              go_ret
              exact ⟨rfl, HFIN.out⟩
        · go_wp2_with fail
          refine HP3.out.mono ?_
          rintro e w4 ⟨ra, rc, rfl, hb4⟩
          have ht4 := HT3.out.below hb4
          have c4 := ht4.c1
          obtain ⟨g', off', y1, y2, -⟩ := ht4.row.at HDD.out
          simp only [Option.some.injEq, Addr.mk.injEq, and_true] at y1
          obtain ⟨rfl, rfl⟩ := y1
          obtain ⟨G4, x1, x2⟩ := ht4.disk HDD.out (s := ⟨B, [], false⟩) (by rw [List.getElem?_set_self (by rw [HLN.out]; exact hjl)])
          have hct := rcut_any x1 (el : Int)
          rw [HCUT.out] at hct
          have HCT := mkH hct
          have HX2 := mkH x2
          clear ht4 x1 x2 hct hb4 HP3 HT3
          generalize cutE ⟨B, [], false⟩ (el : Int) = ce at *
          go_wp2_with fail
          refine HCT.out.mono ?_
          rintro e w5 ⟨rfl, hro⟩
          have ht5 := HX2.out w5 _ hro
          rw [List.set_set, HSET.out] at ht5
          have c5 := ht5.c1
          have c50 := ht5.c0
          obtain ⟨g', off', z1, z2, -⟩ := ht5.row.at HDD.out
          simp only [Option.some.injEq, Addr.mk.injEq, and_true] at z1
          obtain ⟨rfl, rfl⟩ := z1
          have HT5 := mkH ht5
          have HO5 := mkH ht5.own
          have hs5 : w.heap.size ≤ w5.heap.size := ht5.fr.size
          clear ht5 hro HCT HX2 c4 y2
          go_wp2_with (at_builtin; refine (wpList_append_own_src_at _ rfl (.tmp 69) (.tmp 77) 44 44 rfl w.heap.size 54 (.pointer none) 1 8 Tryd.underlying44 infoR rfl (by decide) _ _ _ rfl (own_below HO5.out ((Below.refl _ _).alloc (Nat.le_refl _) _)) _ 1 [.pointer (some ⟨D, 0, none⟩)] rfl (src_val Tryd.underlying44 _ _ rfl) ?h63 ?hby ?hbs ?_))
          case h63 => unfold maxLen; omega
          case hby => omega
          case hbs => simp; omega
          intro v7 w7 hown7 hgrow7 hblk7
          obtain ⟨a7, c7, rfl⟩ := own_form hown7
          have hfr7 : Fr (fun k => (Value.slice oa j oc).ownBlock = some k) w5 w7 := ((Fr.refl _ _).alloc _).trans (fr_grown hgrow7) (fun i hi => .inl hi)
          have hb7 : (Value.slice a7 (j + 1) c7).ownBlock = (Value.slice oa j oc).ownBlock ∨ ∃ q, (Value.slice a7 (j + 1) c7).ownBlock = some q ∧ w5.heap.size ≤ q := by
            rcases hblk7 with y | y
            · exact .inl y
            · exact .inr ⟨_, y, by simp⟩
          have ht7 := HT5.out.app HDD.out hown7 hfr7 hb7
          have c71 := ht7.c1
          have c70 := ht7.c0
          have f71 := ht7.f1
          have HT7 := mkH ht7
          clear hown7 hgrow7 hblk7 hfr7 hb7 ht7 HT5 HO5 c5 c50 z2
          by_cases hcont : el = bl ∧ k = per
          · obtain ⟨rfl, rfl⟩ := hcont
            have htl := HEQ.out.1 rfl
            have hrs3 := HRS2.out
            rw [if_pos ⟨htl, HLJ.out⟩] at hrs3
            have hnew : rs k p sg = (sg.take (j + 1)).map (fun s => lft s p) ++ rs k p (sg.drop (j + 1)) := by
              rw [map_take_at _ HS.out, List.append_assoc]; exact hrs3
            have HNEW := mkH hnew
            clear hrs3 hnew htl f71
            go_wp2_with fail
            refine ⟨⟨j + 1, a7, c7, _, by omega, by go_num, rfl, ?_, HT7.out, HNEW.out⟩, by simp [intOf]; omega⟩
            rw [← HDU.out]
          · have hrs3 := HRS2.out
            rw [if_neg (fun x => hcont ⟨HEQ.out.2 x.1, by have := HLJ.out; have := x.2; omega⟩)] at hrs3
            have hfin := HEND.out w7 (.slice a7 (j + 1) c7) (j + 1) _ _ (by omega) HT7.out HTK1.out (by rw [map_take_at _ HS.out]; exact hrs3)
            have HFIN := mkH hfin
            clear hrs3 hfin HT7
            by_cases hlt : el < bl
            · go_wp2
              go_ret
              exact ⟨rfl, HFIN.out⟩
            · have he2 : el = bl := by omega
              have hk2 : k < per := by omega
              have hlt2 : decide ((el : Int) < (bl : Int)) = false := by simp; omega
              subst he2
              go_wp2
              go_ret
              exact ⟨rfl, HFIN.out⟩
end
end Go.Proofs.YtjfbhchpgmimfaaDoor.Sgi

namespace Go.Proofs.YtjfbhchpgmimfaaDoor.Sgj
open Go.RowKit Kt Cs Cf Cv Ck Ca Dk Dp Da Db Dc Dd De Sq Sr Sa Sb Sc Se Sf Sk Sm St Su Sv Pl Sra Srb Dr Dr2 Dr3 Sgc Sgd Sge Sgf Sgh Sgi
set_option linter.unusedVariables false
set_option linter.unusedSimpArgs false
set_option maxRecDepth 20000

set_option maxHeartbeats 1000000 in
theorem lcopy_any {w : World} {F : Nat → Prop} {B : Nat} {h : H} (hl : Lg w F B h) (hp : 1 ≤ h.per) (hn : h.segs.length ≤ 256) :
    Calls Tryd.prog 11 #[.pointer (some ⟨B, 0, none⟩)] w fun e w' => e = .returned (.pointer (some ⟨w.heap.size, 0, none⟩)) ∧ Lg w' (fun k => w.heap.size ≤ k ∧ k < w'.heap.size) w.heap.size h ∧ Below w.heap.size w w' := by
  have HL := mkH hl
  obtain ⟨v, FD, Ps, h1, h2⟩ := hl
  obtain ⟨ao, cap, rfl⟩ := own_form h1.row.1
  have c0 := h1.c0
  have c1 := h1.c1
  have c2 := h1.c2
  have c3 := h1.c3
  have c4 := h1.c4
  have c5 := h1.c5
  clear h1 h2
  generalize Ps.length = n at *
  go_enter Tryd.func11, Tryd.ntmps11
  go_wp2_with fail
  refine (isMade_any w B _ hp c0).mono ?_
  rintro e w1 ⟨rfl, hw⟩
  have hw2 := hw.symm
  subst hw2
  clear hw
  go_wp2_with fail
  obtain ⟨w0, hw0⟩ : ∃ w0, w.alloc (.cells #[.int .i64 (h.per : Int), .bool h.dn.isSome, .slice ao n cap, .int .i64 (nb h : Int), .int .i64 (nn h : Int), .int .i64 (ns h : Int)] 57) = w0 := ⟨_, rfl⟩
  have hb0 : Below w.heap.size w w0 := by rw [← hw0]; exact (Below.refl _ w).alloc (Nat.le_refl _) _
  have hs0 : w0.heap.size = w.heap.size + 1 := by rw [← hw0]; simp
  have hh0 : w0.heap[w.heap.size]? = some (.cells #[.int .i64 (h.per : Int), .bool h.dn.isSome, .slice ao n cap, .int .i64 (nb h : Int), .int .i64 (nn h : Int), .int .i64 (ns h : Int)] 57 (0, 0)) := by rw [← hw0]; exact heap_alloc_new _ _
  rw [hw0]
  clear hw0 c0 c1 c2 c3 c4 c5
  refine (segments_any (HL.out.below hb0) hp hn).mono ?_
  rintro e w2 ⟨v2, FD2, Ps2, rfl, hnd⟩
  have hb2 := hnd.below
  have hh2 : w2.heap[w.heap.size]? = some (.cells #[.int .i64 (h.per : Int), .bool h.dn.isSome, .slice ao n cap, .int .i64 (nb h : Int), .int .i64 (nn h : Int), .int .i64 (ns h : Int)] 57 (0, 0)) := by rw [hb2.block _ (by omega)]; exact hh0
  have hs2 := hb2.size
  have d2 : w2.cell? ⟨w.heap.size, 2, none⟩ = some (.slice ao n cap) := by rw [cell_of_row _ _ _ _ _ _ hh2]; rfl
  have f2 : w2.frozen? ⟨w.heap.size, 2, none⟩ = false := frozen_of_row w2 _ 2 _ _ hh2
  have hrp : Rp w2 (fun k => w.heap.size ≤ k ∧ k < w2.heap.size) FD2 w.heap.size v2 Ps2 := by
    refine ⟨own_weak hnd.own (Nat.zero_le _), fun g hg => ⟨?_, ?_, hnd.blk g hg⟩⟩
    · have := own_blk hnd.own hg; exact ⟨by omega, this.1⟩
    · have := own_blk hnd.own hg; omega
  have hmk := lr_mk (F := fun k => w.heap.size ≤ k ∧ k < w2.heap.size) (FD := FD2) (fun k hk => hk.2) ⟨Nat.le_refl _, by omega⟩ (fun k hk => ⟨by have := hnd.fd k hk; omega, by have := hnd.fd k hk; omega⟩) hh2 hrp
  have hfr := lr_fr2 hh2 v2
  have hsk := hnd.sk.fr hfr (fun k hk e => by have := hnd.fd k hk; omega)
  have hsz : (w2.setCell ⟨w.heap.size, 2, none⟩ v2).heap.size = w2.heap.size := by rw [setCell_eq_setRow w2 _ 2 _ _ (0, 0) _ hh2, setRow_size]
  have hlg : Lg (w2.setCell ⟨w.heap.size, 2, none⟩ v2) (fun k => w.heap.size ≤ k ∧ k < (w2.setCell ⟨w.heap.size, 2, none⟩ v2).heap.size) w.heap.size h := by
    rw [hsz]
    exact ⟨v2, FD2, Ps2, hmk, hsk⟩
  have hbb : Below w.heap.size w (w2.setCell ⟨w.heap.size, 2, none⟩ v2) := (hb0.trans (hb2.mono (by omega))).trans (hfr.below (fun k hk => by omega) (by omega))
  have HLG := mkH hlg
  have HBB := mkH hbb
  obtain ⟨va, vc, rfl⟩ := own_form hnd.own
  clear hnd hb2 hh2 hs2 hrp hmk hfr hsk hsz hlg hbb hb0 hs0 hh0
  go_wp2
  go_ret
  exact ⟨rfl, HLG.out, HBB.out⟩

/-- Block B is a log, block R the document's; apart from each other and from the blocks of P, which are as they were in w1. -/
structure Pp (w1 : World) (P : Nat → Prop) (w : World) (B R : Nat) (h t : H) : Prop where
  lg : ∃ F G, Lg w F B h ∧ Rg w G R t ∧ (∀ k, F k → ¬ G k) ∧ (∀ k, F k → ¬ P k) ∧ ∀ k, G k → ¬ P k
  fr : Fr (fun k => ¬ P k) w1 w
  lt : ∀ k, P k → k < w1.heap.size
  p0 : P 0
  tb : Tb w1
section
variable {w1 : World} {P : Nat → Prop} {w w' : World} {B R C : Nat} {h h' t t' : H} {N : Nat}
theorem Pp.tbw (hp : Pp w1 P w B R h t) : Tb w := tb_fr hp.tb hp.fr (fun x => x hp.p0)
theorem Pp.ln (hp : Pp w1 P w B R h t) : ∃ Q, Ln w Q w B h ∧ ∀ w' h', Ln w Q w' B h' → Pp w1 P w' B R h' t := by
  obtain ⟨F, G, hl, hr, hFG, hFP, hGP⟩ := hp.lg
  have hs := hp.fr.size
  refine ⟨fun k => k < w.heap.size ∧ ¬ F k, ⟨⟨F, hl, fun k hk hx => hx.2 hk⟩, Fr.refl _ _, fun k hk => hk.1, ⟨by have := hp.lt 0 hp.p0; omega, fun x => hFP 0 x hp.p0⟩, hp.tbw⟩, fun w' h' hl' => ?_⟩
  obtain ⟨F', l1, l2⟩ := hl'.lg
  have hGQ : ∀ k, G k → k < w.heap.size ∧ ¬ F k := fun k hk => ⟨hr.lt k hk, fun x => hFG k x hk⟩
  have hPQ : ∀ k, P k → k < w.heap.size ∧ ¬ F k := fun k hk => ⟨by have := hp.lt k hk; omega, fun x => hFP k x hk⟩
  refine ⟨⟨F', G, l1, hr.fr hl'.fr (fun k hk hg => hk (hGQ k hg)), fun k hf hg => l2 k hf (hGQ k hg), fun k hf hx => l2 k hf (hPQ k hx), hGP⟩, hp.fr.trans hl'.fr (fun i hi => ?_), hp.lt, hp.p0, hp.tb⟩
  by_cases hi2 : P i
  · exact absurd (hPQ i hi2) hi
  · exact .inl hi2
theorem Pp.mk' {F G G' : Nat → Prop} (hp : Pp w1 P w B R h t) (hl : Lg w F B h) (hFG : ∀ k, F k → ¬ G k) (hFP : ∀ k, F k → ¬ P k) (hGP : ∀ k, G k → ¬ P k) (h' : Rg w' G' R t') (hn : Nx G w w' G') : Pp w1 P w' B R h t' := by
  refine ⟨⟨F, G', hl.fr hn.1 (fun k hg hf => hFG k hf hg), h', fun k hf hg => hn.apart hl.lt (fun k hg hf => hFG k hf hg) k hg hf, hFP, fun k hk hP => ?_⟩, hp.fr.trans hn.1 (fun i hi => .inl (hGP i hi)), hp.lt, hp.p0, hp.tb⟩
  rcases hn.2 k hk with x | x
  · exact hGP k x hP
  · have := hp.lt k hP; have := hp.fr.size; omega
theorem Pp.below (hp : Pp w1 P w B R h t) (hb : Below w.heap.size w w') : Pp w1 P w' B R h t := by
  obtain ⟨F, G, hl, hr, hFG, hFP, hGP⟩ := hp.lg
  exact ⟨⟨F, G, hl.below hb, hr.below hb, hFG, hFP, hGP⟩, hp.fr.trans (Fr.ofBelow (F := fun _ => False) hb) (fun _ x => x.elim), hp.lt, hp.p0, hp.tb⟩
/-- What was laid since is protected too. -/
theorem Pp.more (hp : Pp w1 P w B R h t) (hb : Below w.heap.size w w') : Pp w' (fun k => P k ∨ (w.heap.size ≤ k ∧ k < w'.heap.size)) w' B R h t := by
  obtain ⟨F, G, hl, hr, hFG, hFP, hGP⟩ := hp.lg
  refine ⟨⟨F, G, hl.below hb, hr.below hb, hFG, fun k hk hx => ?_, fun k hk hx => ?_⟩, Fr.refl _ _, fun k hk => ?_, .inl hp.p0, (hp.below hb).tbw⟩
  · rcases hx with x | x
    · exact hFP k hk x
    · have := hl.lt k hk; omega
  · rcases hx with x | x
    · exact hGP k hk x
    · have := hr.lt k hk; omega
  · rcases hk with x | x
    · have := hp.lt k x; have := hp.fr.size; have := hb.size; omega
    · exact x.2
theorem Pp.toBelow (hp : Pp w1 P w B R h t) {b : Nat} (hB : ∀ k, k < b → P k) : Below b w1 w :=
  ⟨hp.fr.os, hp.fr.tape, hp.fr.output, hp.fr.size, fun k hk => hp.fr.block k (hp.lt k (hB k hk)) (fun x => x (hB k hk))⟩
/-- Back to what was protected ahead: 'X' was protected in between and has turned since. -/
theorem Pp.back {w0 w2 : World} {P0 X : Nat → Prop} (hp : Pp w1 P w B R h t) (hP : ∀ k, P0 k → P k) (h0 : Fr (fun k => ¬ P0 k) w0 w1) (hl0 : ∀ k, P0 k → k < w0.heap.size) (h00 : P0 0) (ht0 : Tb w0) (hX : Fr X w w2) (hXP : ∀ k, X k → P k ∧ ¬ P0 k) : Pp w0 P0 w2 B R h t := by
  obtain ⟨F, G, hl, hr, hFG, hFP, hGP⟩ := hp.lg
  refine ⟨⟨F, G, hl.fr hX (fun k hx hf => hFP k hf (hXP k hx).1), hr.fr hX (fun k hx hf => hGP k hf (hXP k hx).1), hFG, fun k hf hp => hFP k hf (hP k hp), fun k hf hp => hGP k hf (hP k hp)⟩, ?_, hl0, h00, ht0⟩
  have e1 : Fr (fun k => ¬ P0 k) w0 w := h0.trans hp.fr (fun i hi => by
    by_cases hp : P0 i
    · exact absurd (hP i hp) hi
    · exact .inl hp)
  exact e1.trans hX (fun i hi => .inl (hXP i hi).2)
/-- .. and on with the copy. -/
theorem Pp.swap {w4 : World} {h4 : H} (h0 : Pp w1 P w B R h t) (hb : Below w.heap.size w w') (hc : Lg w' (fun k => w.heap.size ≤ k ∧ k < w'.heap.size) C h) (hp : Pp w' (fun k => P k ∨ (w.heap.size ≤ k ∧ k < w'.heap.size)) w4 B R h4 t) : Pp w1 P w4 C R h t := by
  obtain ⟨F, G, -, hr, -, -, hGP⟩ := hp.lg
  refine ⟨⟨_, G, hc.fr hp.fr (fun k hx hk => hx (.inr hk)), hr, fun k hk hg => hGP k hg (.inr hk), fun k hk hx => ?_, fun k hg hx => hGP k hg (.inl hx)⟩, ?_, h0.lt, h0.p0, h0.tb⟩
  · have := h0.lt k hx; have := h0.fr.size; omega
  · have e1 : Fr (fun k => ¬ P k) w1 w' := h0.fr.trans (Fr.ofBelow (F := fun _ => False) hb) (fun _ x => x.elim)
    exact e1.trans hp.fr (fun i hi => .inl (fun hx => hi (.inl hx)))

/-! The program's calls. -/
theorem append_pp (hp : Pp w1 P w B R h t) (hi : Inv N h) (hN : N ≤ 1000000) (ao : Option Addr) (cap : Nat) (r : List UInt8) (hr : Row w ao r) (hrl : r.length ≤ 400) :
    Calls Tryd.prog 12 #[.pointer (some ⟨B, 0, none⟩), .slice ao r.length cap] w fun e w' => e = .returned (.tuple #[.int .i64 (apN h), .int .i64 (apE h)]) ∧ Pp w1 P w' B R (apH h r) t := by
  obtain ⟨Q, l1, l2⟩ := hp.ln
  exact (append_ln l1 hi hN ao cap r hr hrl).mono (fun e w' x => ⟨x.1, l2 _ _ x.2⟩)
theorem sync_pp (hp : Pp w1 P w B R h t) (hi : Inv N h) :
    Calls Tryd.prog 29 #[.pointer (some ⟨B, 0, none⟩)] w fun e w' => e = .returned (.int .i64 (syE h)) ∧ Pp w1 P w' B R (syH h) t := by
  obtain ⟨Q, l1, l2⟩ := hp.ln
  exact (sync_ln l1 hi).mono (fun e w' x => ⟨x.1, l2 _ _ x.2⟩)
theorem drop_pp (hp : Pp w1 P w B R h t) (hi : Inv N h) (hN : N ≤ 1000000) (n : Int) :
    Calls Tryd.prog 30 #[.pointer (some ⟨B, 0, none⟩), .int .i64 n] w fun e w' => e = .returned (.int .i64 (drE h n)) ∧ Pp w1 P w' B R (drH h n) t := by
  obtain ⟨Q, l1, l2⟩ := hp.ln
  exact (drop_ln l1 hi hN n).mono (fun e w' x => ⟨x.1, l2 _ _ x.2⟩)
theorem crash_pp (hp : Pp w1 P w B R h t) (hi : Inv N h) (k f : Int) (hf : f ≤ 9223372036854775807) :
    Calls Tryd.prog 13 #[.pointer (some ⟨B, 0, none⟩), .int .i64 k, .int .i64 f] w fun e w' => e = .returned (.int .i64 (crE h k)) ∧ Pp w1 P w' B R (crH h k f) t := by
  obtain ⟨Q, l1, l2⟩ := hp.ln
  exact (crash_ln l1 hi k f hf).mono (fun e w' x => ⟨x.1, l2 _ _ x.2⟩)
theorem restart_pp (hp : Pp w1 P w B R h t) (hi : Inv N h) (hN : N ≤ 1000000) :
    Calls Tryd.prog 31 #[.pointer (some ⟨B, 0, none⟩)] w fun e w' => e = .returned (.int .i64 (rsE h)) ∧ Pp w1 P w' B R (rst h) t := by
  obtain ⟨Q, l1, l2⟩ := hp.ln
  exact (restart_ln l1 hi hN).mono (fun e w' x => ⟨x.1, l2 _ _ x.2⟩)
theorem base_pp (hp : Pp w1 P w B R h t) (h1 : 1 ≤ h.per) : Calls Tryd.prog 19 #[.pointer (some ⟨B, 0, none⟩)] w fun e w' => e = .returned (.int .i64 (nb h : Nat)) ∧ w' = w := by obtain ⟨Q, l1, l2⟩ := hp.ln; exact base_ln l1 h1
theorem len_pp (hp : Pp w1 P w B R h t) (h1 : 1 ≤ h.per) : Calls Tryd.prog 21 #[.pointer (some ⟨B, 0, none⟩)] w fun e w' => e = .returned (.int .i64 (nn h : Nat)) ∧ w' = w := by obtain ⟨Q, l1, l2⟩ := hp.ln; exact len_ln l1 h1
theorem safe_pp (hp : Pp w1 P w B R h t) (h1 : 1 ≤ h.per) : Calls Tryd.prog 23 #[.pointer (some ⟨B, 0, none⟩)] w fun e w' => e = .returned (.int .i64 (ns h : Nat)) ∧ w' = w := by obtain ⟨Q, l1, l2⟩ := hp.ln; exact safe_ln l1 h1
theorem down_pp (hp : Pp w1 P w B R h t) (h1 : 1 ≤ h.per) : Calls Tryd.prog 18 #[.pointer (some ⟨B, 0, none⟩)] w fun e w' => e = .returned (.bool h.dn.isSome) ∧ w' = w := by obtain ⟨Q, l1, l2⟩ := hp.ln; exact down_ln l1 h1
theorem all_pp (hp : Pp w1 P w B R h t) (hi : Inv N h) (hN : N ≤ 1000000) : Calls Tryd.prog 15 #[.pointer (some ⟨B, 0, none⟩)] w fun e w' => ∃ a c l, e = .returned (.tuple #[.slice a (all (es h)).length c, .bool true]) ∧ Ol w.heap.size w' (.slice a (all (es h)).length c) l ∧ l.map (·.bs) = all (es h) ∧ Below w.heap.size w w' := by
  obtain ⟨Q, l1, l2⟩ := hp.ln
  refine (all_ln l1 hi hN).mono ?_
  rintro e w' ⟨a, c, l, h1, h2, h3, h4, -⟩
  exact ⟨a, c, l, h1, h2, h3, h4⟩
theorem segments_pp (hp : Pp w1 P w B R h t) (hi : Inv N h) : Calls Tryd.prog 25 #[.pointer (some ⟨B, 0, none⟩)] w fun e w' => ∃ v FD Ps, e = .returned v ∧ Nd w w' v FD Ps (h.segs.map (dst h.dn)) := by
  obtain ⟨F, G, hl, -⟩ := hp.lg
  exact segments_any hl hi.p1 hi.n
theorem copy_pp (hp : Pp w1 P w B R h t) (hi : Inv N h) : Calls Tryd.prog 11 #[.pointer (some ⟨B, 0, none⟩)] w fun e w' => e = .returned (.pointer (some ⟨w.heap.size, 0, none⟩)) ∧ Lg w' (fun k => w.heap.size ≤ k ∧ k < w'.heap.size) w.heap.size h ∧ Below w.heap.size w w' := by
  obtain ⟨F, G, hl, -⟩ := hp.lg
  exact lcopy_any hl hi.p1 hi.n

/-! The document's calls. -/
theorem rappend_pp (hp : Pp w1 P w B R h t) (hi : Inv N t) (hN : N ≤ 1000000) (ao : Option Addr) (cap : Nat) (r : List UInt8) (hr : Row w ao r) (hrl : r.length ≤ 400) :
    Calls Tryd.prog 38 #[.pointer (some ⟨R, 0, none⟩), .slice ao r.length cap] w fun e w' => e = .returned (.tuple #[.int .i64 (apN t), .int .i64 (apE t)]) ∧ Pp w1 P w' B R h (apH t r) := by
  obtain ⟨F, G, hl, hr0, hFG, hFP, hGP⟩ := id hp.lg
  cases hd : t.dn with
  | none =>
    have e1 : apN t = appNum t := by simp [apN, hd]
    have e2 : apE t = appErr t := by simp [apE, hd]
    have e3 : apH t r = app t r := by simp [apH, hd]
    rw [e1, e2, e3]
    refine (rappend_any' hr0 hi hN hd ao cap r hr hrl).mono ?_
    rintro e w' ⟨rfl, G', h3, h4⟩
    exact ⟨rfl, Pp.mk' hp hl hFG hFP hGP h3 h4⟩
  | some p =>
    have e1 : apN t = 0 := by simp [apN, hd]
    have e2 : apE t = 10 := by simp [apE, hd]
    have e3 : apH t r = t := by simp [apH, hd]
    rw [e1, e2, e3]
    refine (rappend_down hr0 hd _).mono ?_
    rintro e w' ⟨rfl, rfl⟩
    exact ⟨rfl, hp⟩
theorem rsync_pp (hp : Pp w1 P w B R h t) (hi : Inv N t) :
    Calls Tryd.prog 39 #[.pointer (some ⟨R, 0, none⟩)] w fun e w' => e = .returned (.int .i64 (syE t)) ∧ Pp w1 P w' B R h (syH t) := by
  obtain ⟨F, G, hl, hr0, hFG, hFP, hGP⟩ := id hp.lg
  cases hd : t.dn with
  | none =>
    have e2 : syE t = 0 := by simp [syE, hd]
    have e3 : syH t = syn t := by simp [syH, hd]
    rw [e2, e3]
    refine (rsync_up hr0 hi.n hd).mono ?_
    rintro e w' ⟨rfl, G', h3, h4⟩
    exact ⟨rfl, Pp.mk' hp hl hFG hFP hGP h3 h4⟩
  | some p =>
    have e2 : syE t = 10 := by simp [syE, hd]
    have e3 : syH t = t := by simp [syH, hd]
    rw [e2, e3]
    refine (rsync_down hr0 hd).mono ?_
    rintro e w' ⟨rfl, rfl⟩
    exact ⟨rfl, hp⟩
theorem rdrop_pp (hp : Pp w1 P w B R h t) (hi : Inv N t) (hN : N ≤ 1000000) (n : Int) :
    Calls Tryd.prog 40 #[.pointer (some ⟨R, 0, none⟩), .int .i64 n] w fun e w' => e = .returned (.int .i64 (drE t n)) ∧ Pp w1 P w' B R h (drH t n) := by
  obtain ⟨F, G, hl, hr0, hFG, hFP, hGP⟩ := id hp.lg
  cases hd : t.dn with
  | none =>
    by_cases hs : (t.safe : Int) < n
    · have e2 : drE t n = 2 := by simp [drE, hd, hs]
      have e3 : drH t n = t := by simp [drH, hd, dro, hs]
      rw [e2, e3]
      refine (rdrop_bad hr0 hi hN hd n hs).mono ?_
      rintro e w' ⟨rfl, hb⟩
      exact ⟨rfl, hp.below hb⟩
    · have e2 : drE t n = 0 := by simp [drE, hd, hs]
      have e3 : drH t n = { t with segs := t.segs.drop (gone t n) } := by simp [drH, hd, dro, hs]
      rw [e2, e3]
      refine (rdrop_up hr0 hi hN hd n (by omega)).mono ?_
      rintro e w' ⟨rfl, G', h3, h4⟩
      exact ⟨rfl, Pp.mk' hp hl hFG hFP hGP h3 h4⟩
  | some p =>
    have e2 : drE t n = 10 := by simp [drE, hd]
    have e3 : drH t n = t := by simp [drH, hd]
    rw [e2, e3]
    refine (rdrop_down hr0 hd n).mono ?_
    rintro e w' ⟨rfl, rfl⟩
    exact ⟨rfl, hp⟩
theorem rcrash_pp (hp : Pp w1 P w B R h t) (hi : Inv N t) (k f : Int) (hf : f ≤ 9223372036854775807) :
    Calls Tryd.prog 41 #[.pointer (some ⟨R, 0, none⟩), .int .i64 k, .int .i64 f] w fun e w' => e = .returned (.int .i64 (crE t k)) ∧ Pp w1 P w' B R h (crH t k f) := by
  obtain ⟨F, G, hl, hr0, hFG, hFP, hGP⟩ := id hp.lg
  cases hd : t.dn with
  | none =>
    by_cases hk : k < 0
    · have e2 : crE t k = 2 := by simp [crE, hd, hk]
      have e3 : crH t k f = t := by simp [crH, hd, crs, hk]
      rw [e2, e3]
      refine (rcrash_bad hr0 hd k f hk).mono ?_
      rintro e w' ⟨rfl, rfl⟩
      exact ⟨rfl, hp⟩
    · have e2 : crE t k = 0 := by simp [crE, hd, hk]
      have e3 : crH t k f = { t with dn := some (k, f) } := by simp [crH, hd, crs, hk]
      rw [e2, e3]
      refine (rcrash_up hr0 hi.n hd k f (by omega) hf).mono ?_
      rintro e w' ⟨rfl, G', h3, h4⟩
      exact ⟨rfl, Pp.mk' hp hl hFG hFP hGP h3 h4⟩
  | some p =>
    have e2 : crE t k = 10 := by simp [crE, hd]
    have e3 : crH t k f = t := by simp [crH, hd]
    rw [e2, e3]
    refine (rcrash_down hr0 hd k f).mono ?_
    rintro e w' ⟨rfl, rfl⟩
    exact ⟨rfl, hp⟩
theorem rrestart_pp (hp : Pp w1 P w B R h t) (hi : Inv N t) (hN : N ≤ 1000000) :
    Calls Tryd.prog 42 #[.pointer (some ⟨R, 0, none⟩)] w fun e w' => e = .returned (.int .i64 (rsE t)) ∧ Pp w1 P w' B R h (rst t) := by
  obtain ⟨F, G, hl, hr0, hFG, hFP, hGP⟩ := id hp.lg
  cases hd : t.dn with
  | none =>
    have e2 : rsE t = 9 := by simp [rsE, hd]
    have e3 : rst t = t := by unfold rst; rw [hd]
    rw [e2, e3]
    refine (rrestart_up hr0 hd).mono ?_
    rintro e w' ⟨rfl, rfl⟩
    exact ⟨rfl, hp⟩
  | some p =>
    have e2 : rsE t = 0 := by simp [rsE, hd]
    rw [e2]
    refine (rrestart_down hr0 hi hN hd).mono ?_
    rintro e w' ⟨rfl, G', h3, h4⟩
    exact ⟨rfl, Pp.mk' hp hl hFG hFP hGP h3 h4⟩
theorem rbase_pp (hp : Pp w1 P w B R h t) (hi : Inv N t) : Calls Tryd.prog 20 #[.pointer (some ⟨R, 0, none⟩)] w fun e w' => e = .returned (.int .i64 (nb t : Nat)) ∧ Below w.heap.size w w' := by
  obtain ⟨F, G, -, hr, -⟩ := hp.lg
  exact rbase_any hr hi
theorem rlen_pp (hp : Pp w1 P w B R h t) (hi : Inv N t) (hN : N ≤ 1000000) : Calls Tryd.prog 22 #[.pointer (some ⟨R, 0, none⟩)] w fun e w' => e = .returned (.int .i64 (nn t : Nat)) ∧ Below w.heap.size w w' := by
  obtain ⟨F, G, -, hr, -⟩ := hp.lg
  exact rlen_any hr hi hN
theorem rsafe_pp (hp : Pp w1 P w B R h t) (hi : Inv N t) (hN : N ≤ 1000000) : Calls Tryd.prog 24 #[.pointer (some ⟨R, 0, none⟩)] w fun e w' => e = .returned (.int .i64 (ns t : Nat)) ∧ Below w.heap.size w w' := by
  obtain ⟨F, G, -, hr, -⟩ := hp.lg
  exact rsafe_any hr hi hN
theorem rrecords_pp (hp : Pp w1 P w B R h t) (hi : Inv N t) (hN : N ≤ 1000000) : Calls Tryd.prog 17 #[.pointer (some ⟨R, 0, none⟩)] w fun e w' => ∃ a c l, e = .returned (.slice a (all (es t)).length c) ∧ Ol w.heap.size w' (.slice a (all (es t)).length c) l ∧ l.map (·.bs) = all (es t) ∧ Below w.heap.size w w' := by
  obtain ⟨F, G, -, hr, -⟩ := hp.lg
  cases hd : t.dn with
  | none =>
    have : es t = t.segs := by simp [es, hd]
    rw [this]
    exact rrecords_up hr hi hN hd
  | some p =>
    have : es t = [] := by simp [es, hd]
    rw [this]
    refine (rrecords_down hr hd).mono ?_
    rintro e w' ⟨rfl, rfl⟩
    exact ⟨none, 0, [], rfl, Ol.nil _ _, rfl, Below.refl _ _⟩
end
end Go.Proofs.YtjfbhchpgmimfaaDoor.Sgj

namespace Go.Proofs.YtjfbhchpgmimfaaDoor.Sgk
open Go.RowKit Kt Cs Cf Cv Ck Ca Dk Dp Da Db Dc Dd De Sq Sr Sa Sb Sc Se Sf Sk Sm St Su Sv Pl Sx Sra Srb Dr Dr2 Dr3 Sgc Sgd Sge Sgf Sgh Sgi Sgj
set_option linter.unusedVariables false
set_option linter.unusedSimpArgs false
set_option maxRecDepth 20000

/-- Bytes that are turned one by one; nothing else turns. -/
def Bq (w4 W : World) (va : Option Addr) (m : Nat) : Prop :=
  Fr (fun k => ∃ off sp, va = some ⟨k, off, sp⟩) w4 W ∧ (0 < m → ∃ g cur, va = some ⟨g, 0, none⟩ ∧ W.heap[g]? = some (.cells cur 5 (0, 0)) ∧ m ≤ cur.size ∧ ∀ j, j < m → ∃ x : Int, cur[j]? = some (.int .u8 x))
theorem bq_start {w4 : World} {base m vc : Nat} {va : Option Addr} {bs : List UInt8} (h : w4.ownsRow base 5 1 (.slice va m vc) m (U bs)) : Bq w4 w4 va m := by
  refine ⟨Fr.refl _ _, fun h0 => ?_⟩
  have hm : m = bs.length := by have := h.1; rw [U_length] at this; omega
  rcases h.2 with ⟨e1, e2⟩ | ⟨g, c, cur, e1, -, hg, hc, -, hs, ht⟩
  · omega
  · simp only [Value.slice.injEq] at e1
    obtain ⟨rfl, -, rfl⟩ := e1
    refine ⟨g, cur, rfl, hg, by omega, fun j hj => ⟨((bs.getD j 0).toNat : Int), ?_⟩⟩
    have h1 : (cur.toList.take (m * 1))[j]? = (U bs)[j]? := by rw [ht]
    rw [List.getElem?_take, if_pos (by omega), U_at bs j (by omega)] at h1
    simpa using h1
theorem bq_at {w4 W : World} {va : Option Addr} {m : Nat} (h : Bq w4 W va m) (j : Nat) (hj : j < m) : ∃ (g : Nat) (x : Int), va = some ⟨g, 0, none⟩ ∧ W.cell? ⟨g, j, none⟩ = some (.int .u8 x) ∧ W.frozen? ⟨g, j, none⟩ = false ∧ ∀ y : Int, Bq w4 (W.setCell ⟨g, j, none⟩ (.int .u8 y)) va m := by
  obtain ⟨g, cur, rfl, hg, hs, hx⟩ := h.2 (by omega)
  obtain ⟨x, hxj⟩ := hx j hj
  refine ⟨g, x, rfl, by rw [cell_of_row _ _ _ _ _ _ hg]; exact hxj, frozen_of_row W g j _ _ hg, fun y => ?_⟩
  rw [setCell_eq_setRow W g j _ _ (0, 0) _ hg]
  refine ⟨h.1.setRow (.inl ⟨0, none, rfl⟩) _, fun _ => ⟨g, _, rfl, setRow_heap _ _ _ _ _ _ hg, by simpa using hs, fun i hi => ?_⟩⟩
  by_cases hij : i = j
  · subst hij
    have hj2 : i < cur.size := by omega
    exact ⟨y, by simp [hj2]⟩
  · obtain ⟨z, hz⟩ := hx i hi
    exact ⟨z, by rw [Array.getElem?_setIfInBounds_ne (fun e => hij e.symm)]; exact hz⟩

/-- What a call of the script leaves. -/
noncomputable def act (h : H) (kd n fl : Int) (b : List UInt8) : H :=
  if kd = 0 then apH h b else if kd = 1 then syH h else if kd = 2 then drH h n else if kd = 3 then crH h n fl else rst h
theorem act_inv {N : Nat} {h : H} (hi : Inv N h) (hN : N + 1 ≤ 1000000) (kd n fl : Int) {b : List UInt8} (hb : b.length ≤ 400) : Inv (N + 1) (act h kd n fl b) := by
  unfold act
  split
  · exact inv_ap hi hN hb
  · split
    · exact Inv.more (inv_sy hi) (by omega)
    · split
      · exact Inv.more (inv_dr hi n) (by omega)
      · split
        · exact Inv.more (inv_cr hi n fl) (by omega)
        · exact Inv.more (inv_rs hi) (by omega)

set_option maxHeartbeats 8000000 in
theorem does_any {w1 : World} {P : Nat → Prop} {w : World} {B R N : Nat} {h : H} (hp : Pp w1 P w B R h h) (hi : Inv N h) (hN : N ≤ 1000000) (kd n fl : Int) (xa : Option Addr) (xc : Nat) (xb : List UInt8) (hrow : Row w xa xb) (hxl : xb.length ≤ xc) (hxc : xc ≤ 9223372036854775807) (hxf : fl ≤ 9223372036854775807) :
    Calls Tryd.prog 14 #[.pointer (some ⟨B, 0, none⟩), .pointer (some ⟨R, 0, none⟩), .agg #[.int .i64 kd, .int .i64 n, .int .i64 fl, .slice xa xb.length xc]] w fun e w' => e = .returned (.bool true) ∧ Pp w1 P w' B R (act h kd n fl (xb.take 400)) (act h kd n fl (xb.take 400)) := by
  obtain ⟨m, hm1, hm2, hm3, hm4⟩ := min_len xb 400
  have hm2 : (if (400 : Int) < (xb.length : Int) then (400 : Int) else (xb.length : Int)) = (m : Int) := hm2
  have hrt := Sx.Row_take hrow 400
  obtain ⟨bs, hbs⟩ : ∃ bs, xb.take 400 = bs := ⟨_, rfl⟩
  rw [hbs] at hm1 hrt ⊢
  obtain ⟨S', hS'⟩ : ∃ S', act h kd n fl bs = S' := ⟨_, rfl⟩
  rw [hS']
  have HS := mkH hS'
  have HM := mkH hm1
  have H0 := mkH hp
  have HI := mkH hi
  have HRT := mkH hrt
  clear hp hi hrow hrt hbs hm1 hS'
  go_enter Tryd.func14, Tryd.ntmps14
  go_wp2_with (at_builtin; refine (wpList_append_own_src _ rfl (.tmp 13) (.tmp 20) 30 30 rfl (w.heap.size + 1) 5 (.int .u8 0) 1 1 Tryd.underlying30 info5 rfl (by decide) _ 0 [] rfl ?hown0 _ m (U bs) rfl ?hsrc ?h63 ?hby ?hbs ?_))
  case hown0 =>
    have := World.ownsRow_made (base := w.heap.size + 1) (e := 5) (size := 1) (w.alloc (.cells #[.int .i64 kd, .int .i64 n, .int .i64 fl, .slice xa xb.length xc] 32)) #[] 0 (by simp) (Nat.zero_le _) rfl
    simp only [World.size_alloc] at this
    exact this
  case hsrc =>
    have := Row.src (P := Tryd.prog) Tryd.underlying30 ((HRT.out.below (below_alloc w (.cells #[.int .i64 kd, .int .i64 n, .int .i64 fl, .slice xa xb.length xc] 32))).below (below_alloc _ (.cells #[] 5))) xc
    rw [HM.out] at this
    exact this
  case h63 => unfold maxLen; omega
  case hby => omega
  case hbs => simp
  intro v2 w2 hown2 hgrow2
  have ho0 := World.ownsRow_made (base := w.heap.size + 1) (e := 5) (size := 1) (w.alloc (.cells #[.int .i64 kd, .int .i64 n, .int .i64 fl, .slice xa xb.length xc] 32)) #[] 0 (by simp) (Nat.zero_le _) rfl
  have hbw0 : Below (w.heap.size + 1) (w.alloc (.cells #[.int .i64 kd, .int .i64 n, .int .i64 fl, .slice xa xb.length xc] 32)) ((w.alloc (.cells #[.int .i64 kd, .int .i64 n, .int .i64 fl, .slice xa xb.length xc] 32)).alloc (.cells #[] 5)) := by
    have := below_alloc (w.alloc (.cells #[.int .i64 kd, .int .i64 n, .int .i64 fl, .slice xa xb.length xc] 32)) (.cells #[] 5)
    simpa using this
  have hbw := below_own ho0 (by simpa using hgrow2) hbw0 (by simp)
  have hown2 : w2.ownsRow (w.heap.size + 1) 5 1 v2 m (U bs) := by simpa using hown2
  obtain ⟨va, vc, rfl⟩ := own_form hown2
  have hh0 : w2.heap[w.heap.size]? = some (.cells #[.int .i64 kd, .int .i64 n, .int .i64 fl, .slice xa xb.length xc] 32 (0, 0)) := by
    rw [hbw.block _ (by omega)]; exact heap_alloc_new _ _
  have hb2 : Below w.heap.size w w2 := (below_alloc w _).trans (hbw.mono (by omega))
  obtain ⟨A, hA⟩ : ∃ A, w.heap.size = A := ⟨_, rfl⟩
  obtain ⟨P', hP'⟩ : ∃ P' : Nat → Prop, P' = (fun k => P k ∨ (w.heap.size ≤ k ∧ k < w2.heap.size)) := ⟨_, rfl⟩
  have hp2 := H0.out.more hb2
  rw [← hP'] at hp2
  have H2 := mkH hp2
  have hlt := hown2.lt
  have HCA : Hid (∀ W s t, Pp w2 P' W B R s t → W.cell? ⟨A, 0, none⟩ = some (.int .i64 kd) ∧ W.cell? ⟨A, 1, none⟩ = some (.int .i64 n) ∧ W.cell? ⟨A, 2, none⟩ = some (.int .i64 fl)) := fun W s t hW => by
    have hx : W.heap[A]? = some (.cells #[.int .i64 kd, .int .i64 n, .int .i64 fl, .slice xa xb.length xc] 32 (0, 0)) := by
      rw [hW.fr.heap (by rw [← hA]; exact block_lt hh0) (fun x => x (by rw [hP', ← hA]; exact .inr ⟨Nat.le_refl _, block_lt hh0⟩)), ← hA]; exact hh0
    rw [cell_of_row _ _ _ _ _ _ hx, cell_of_row _ _ _ _ _ _ hx, cell_of_row _ _ _ _ _ _ hx]
    exact ⟨rfl, rfl, rfl⟩
  have HOW : Hid (∀ W s t, Pp w2 P' W B R s t → W.ownsRow (w.heap.size + 1) 5 1 (.slice va m vc) m (U bs)) := fun W s t hW => by
    refine ⟨hown2.1, ?_⟩
    rcases hown2.2 with x | ⟨g, c, cur, e1, hb, hg, hx⟩
    · exact .inl x
    · refine .inr ⟨g, c, cur, e1, hb, ?_, hx⟩
      rw [hW.fr.heap (block_lt hg) (fun x => x (by rw [hP']; exact .inr ⟨by omega, block_lt hg⟩))]; exact hg
  have HBACK : Hid (∀ W4 W s t, Pp w2 P' W4 B R s t → Bq W4 W va m → Pp w1 P W B R s t) := fun W4 W s t h4 hq => by
    have hf := H0.out.fr
    have hg := H0.out.lt
    refine h4.back (P0 := P) (by rw [hP']; exact fun k hk => .inl hk) (hf.trans (Fr.ofBelow (F := fun _ => False) hb2) (fun _ x => x.elim)) hg H0.out.p0 H0.out.tb hq.1 ?_
    rintro k ⟨off, sp, rfl⟩
    have hk := hlt k rfl
    have : ¬ P k := fun hp => by have := hg k hp; have := hf.size; omega
    exact ⟨by rw [hP']; exact .inr ⟨by omega, hk.2⟩, this⟩
  have HROW : Hid (∀ W s t, Pp w2 P' W B R s t → Row W va bs) := fun W s t hW => (Row.own (HOW.out W s t hW)).2.2
  have hvl := (Row.own hown2).2.1
  have hvc := own_cap hown2
  obtain ⟨cA0, cA1, cA2⟩ := HCA.out _ _ _ H2.out
  rw [hA]
  clear hown2 hgrow2 ho0 hbw0 hbw hh0 hb2 hp2 hlt hP' hA H0 HRT
  by_cases h0 : kd = 0
  · subst h0
    have HACT : Hid (act h 0 n fl bs = apH h bs) := rfl
    go_wp2_with fail
    have q3 := append_pp H2.out HI.out hN va vc bs (HROW.out _ _ _ H2.out) (by rw [HM.out]; omega)
    rw [HM.out] at q3
    refine q3.mono ?_
    rintro e w3 ⟨rfl, h3⟩
    have H3 := mkH h3
    clear h3 q3
    go_wp2_with fail
    have q4 := rappend_pp H3.out HI.out hN va vc bs (HROW.out _ _ _ H3.out) (by rw [HM.out]; omega)
    rw [HM.out] at q4
    refine q4.mono ?_
    rintro e w4 ⟨rfl, h4⟩
    clear H3 q4
    have H4 := mkH h4
    clear h4 cA0 cA1 cA2
    have HQ0 := mkH (bq_start (HOW.out _ _ _ H4.out))
    generalize apN h = A1 at *
    generalize apE h = E1 at *
    go_wp2_with fail
    go_loopw [40] (fun i W => ∃ j : Nat, j ≤ m ∧ i = .int .i64 j ∧ Hid (Bq w4 W va m)) (fun i _ => m - (intOf i).toNat)
    case atStart => exact ⟨0, by omega, rfl, HQ0⟩
    case round =>
      obtain ⟨j, hj, rfl, HQ⟩ := hrel
      by_cases hjm : j = m
      · subst hjm
        go_wp2
        go_ret
        refine ⟨rfl, ?_⟩
        rw [← HS.out, HACT.out]
        exact HBACK.out _ _ _ _ H4.out HQ.out
      · have hjl : j < m := by omega
        obtain ⟨g, x, hva, hc, hfz, hset⟩ := bq_at HQ.out j hjl
        have HSET := mkH hset
        subst hva
        clear hset
        go_wp2_with fail
        refine ⟨⟨j + 1, by omega, by go_num, HSET.out _⟩, by simp [intOf]; omega⟩
  · have t0 : (kd == 0) = false := by simp [h0]
    by_cases h1 : kd = 1
    · subst h1
      have HACT : Hid (act h 1 n fl bs = syH h) := rfl
      go_wp2_with fail
      refine (sync_pp H2.out HI.out).mono ?_
      rintro e w3 ⟨rfl, h3⟩
      have H3 := mkH h3
      clear h3
      go_wp2_with fail
      refine (rsync_pp H3.out HI.out).mono ?_
      rintro e w4 ⟨rfl, h4⟩
      clear H3
      have H4 := mkH h4
      clear h4 cA0 cA1 cA2
      generalize syE h = E1 at *
      go_wp2
      go_ret
      refine ⟨rfl, ?_⟩
      rw [← HS.out, HACT.out]
      exact HBACK.out _ _ _ _ H4.out (bq_start (HOW.out _ _ _ H4.out))
    · have t1 : (kd == 1) = false := by simp [h1]
      by_cases h2 : kd = 2
      · subst h2
        have HACT : Hid (act h 2 n fl bs = drH h n) := rfl
        have HD2 := mkH (H2.out.below (below_drewN (Below.refl _ _) 1))
        go_wp2_with fail
        go_region_held3 (fun w' => w'.cell? ⟨A, 1, none⟩ = some (.int .i64 n) ∧ w'.cell? ⟨A, 2, none⟩ = some (.int .i64 fl)) (first | exact ⟨cA1, cA2⟩ | exact hkeep | exact hkeep2) (first
          | (go_at_call 30; refine (drop_pp HD2.out HI.out hN n).mono ?_; rintro e w3 ⟨rfl, h3⟩; have hkeep := (HCA.out _ _ _ h3).2)
          | (go_at_call 40; refine (rdrop_pp h3 HI.out hN n).mono ?_; rintro e w4 ⟨rfl, h4⟩; have hkeep2 := (HCA.out _ _ _ h4).2))
        clear hkeep hkeep2 h3
        have H4 := mkH h4
        clear h4 cA0 cA1 cA2
        generalize drE h n = E1 at *
        go_wp2
        go_ret
        refine ⟨rfl, ?_⟩
        rw [← HS.out, HACT.out]
        exact HBACK.out _ _ _ _ H4.out (bq_start (HOW.out _ _ _ H4.out))
      · have t2 : (kd == 2) = false := by simp [h2]
        by_cases h3 : kd = 3
        · subst h3
          have HACT : Hid (act h 3 n fl bs = crH h n fl) := rfl
          have HD2 := mkH (H2.out.below (below_drewN (Below.refl _ _) 1))
          go_wp2_with fail
          go_region_held3 (fun w' => w'.cell? ⟨A, 1, none⟩ = some (.int .i64 n) ∧ w'.cell? ⟨A, 2, none⟩ = some (.int .i64 fl)) (first | exact ⟨cA1, cA2⟩ | exact hkeep | exact hkeep2) (first
            | (go_at_call 13; refine (crash_pp HD2.out HI.out n fl hxf).mono ?_; rintro e w3 ⟨rfl, h3⟩; have hkeep := (HCA.out _ _ _ h3).2)
            | (go_at_call 41; refine (rcrash_pp h3 HI.out n fl hxf).mono ?_; rintro e w4 ⟨rfl, h4⟩; have hkeep2 := (HCA.out _ _ _ h4).2))
          clear hkeep hkeep2 h3
          have H4 := mkH h4
          clear h4 cA0 cA1 cA2
          generalize crE h n = E1 at *
          go_wp2
          go_ret
          refine ⟨rfl, ?_⟩
          rw [← HS.out, HACT.out]
          exact HBACK.out _ _ _ _ H4.out (bq_start (HOW.out _ _ _ H4.out))
        · have t3 : (kd == 3) = false := by simp [h3]
          have HACT : Hid (act h kd n fl bs = rst h) := by unfold Hid act; rw [if_neg h0, if_neg h1, if_neg h2, if_neg h3]
          clear h0 h1 h2 h3
          go_wp2_with fail
          refine (restart_pp H2.out HI.out hN).mono ?_
          rintro e w3 ⟨rfl, h3⟩
          have H3 := mkH h3
          clear h3
          go_wp2_with fail
          refine (rrestart_pp H3.out HI.out hN).mono ?_
          rintro e w4 ⟨rfl, h4⟩
          clear H3
          have H4 := mkH h4
          clear h4 cA0 cA1 cA2
          generalize rsE h = E1 at *
          go_wp2
          go_ret
          refine ⟨rfl, ?_⟩
          rw [← HS.out, HACT.out]
          exact HBACK.out _ _ _ _ H4.out (bq_start (HOW.out _ _ _ H4.out))
end Go.Proofs.YtjfbhchpgmimfaaDoor.Sgk
