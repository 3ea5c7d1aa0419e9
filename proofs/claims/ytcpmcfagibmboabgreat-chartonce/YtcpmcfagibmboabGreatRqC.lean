/-
  ChKh ChKk Few Reads2 AddI AddT ChMd ChRs ChMr ListsT WiK WiW, joined by mrg.py.
-/
import Derived.Shelf.SlIterI.Nil
import Derived.Shelf.SlIterI.Sorted
import Derived.Shelf.SortM.Plain
import Derived.Shelf.SortM.SortNone
import Derived.Test.YtcpmcfagibmboabGreatRows
import Derived.Test.YtcpmcfagibmboabGreatChCp
import Derived.Test.YtcpmcfagibmboabGreatReads
import Derived.Test.YtcpmcfagibmboabGreatWrites
import Derived.Test.YtcpmcfagibmboabGreatTexts
import Derived.Test.YtcpmcfagibmboabGreatKit2
import Derived.Test.YtcpmcfagibmboabGreatRqB
import Derived.Test.YtcpmcfagibmboabGreatChLd
import Derived.Test.YtcpmcfagibmboabGreatWiP
import Derived.Below
import Derived.Laws.StructEq
import Derived.Deep.QuietTactic
import Derived.Sort.Grow
import Derived.Shelf.SlSortCmp.QuietGrown

namespace Go.Proofs.YtcpmcfagibmboabGreat.Ksh
open Go.Shelf
def lkeys_ren : Go.Shelf.Ren := ⟨fun | 7 => 25 | 10 => 52 | n => n, fun | 23 => 57 | 26 => 3 | 3 => 3 | 28 => 77 | 0 => 0 | 27 => 76 | 33 => 89 | 4 => 4 | n => n, fun | n => n⟩
theorem lkeys : Go.Proofs.SlLaysZI.n7 Tryz.prog lkeys_ren := {
  mixed := by kernel_rfl
  f7 := ⟨Tryz.f25.name, by decide, Tryz.func25.trans (congrArg some (by kernel_rfl))⟩
  f10 := ⟨Tryz.f52.name, by decide, Tryz.func52.trans (congrArg some (by kernel_rfl))⟩
  t0 := Tryz.underlying0
  a0 := Tryz.isAgg0
  z0 := Tryz.sizeOf0
  v0 := Tryz.zeroValue0
  t4 := Tryz.underlying4
  a4 := Tryz.isAgg4
  z4 := Tryz.sizeOf4
  v4 := Tryz.zeroValue4
  t23 := Tryz.underlying57
  a23 := Tryz.isAgg57
  z23 := Tryz.sizeOf57
  v23 := Tryz.zeroValue57
  t26 := Tryz.underlying3
  a26 := Tryz.isAgg3
  z26 := Tryz.sizeOf3
  v26 := Tryz.zeroValue3
  t27 := Tryz.underlying76
  a27 := Tryz.isAgg76
  z27 := Tryz.sizeOf76
  v27 := Tryz.zeroValue76
  t28 := Tryz.underlying77
  a28 := Tryz.isAgg77
  z28 := Tryz.sizeOf77
  v28 := Tryz.zeroValue77
  t33 := Tryz.underlying89
  a33 := Tryz.isAgg89
  z33 := Tryz.sizeOf89
  v33 := Tryz.zeroValue89 }
def lsorted_ren : Go.Shelf.Ren := ⟨fun | 6 => 24 | 8 => 50 | 9 => 51 | 11 => 77 | 13 => 79 | 12 => 78 | 23 => 102 | 24 => 103 | 14 => 93 | 15 => 94 | 16 => 95 | 17 => 96 | 18 => 97 | 19 => 98 | 20 => 99 | 21 => 100 | 22 => 101 | 25 => 108 | 26 => 109 | 27 => 110 | 28 => 111 | 29 => 112 | 30 => 113 | 31 => 118 | n => n, fun | 26 => 3 | 28 => 77 | 24 => 74 | 0 => 0 | 3 => 3 | 37 => 138 | 48 => 161 | 50 => 163 | 4 => 4 | 40 => 154 | 39 => 153 | 45 => 80 | 5 => 5 | 9 => 9 | 51 => 170 | 55 => 174 | 57 => 180 | 58 => 181 | 33 => 89 | n => n, fun | n => n⟩
theorem lsorted : Go.Proofs.SlLaysZI.n6 Tryz.prog lsorted_ren := {
  mixed := by kernel_rfl
  f6 := ⟨Tryz.f24.name, by decide, Tryz.func24.trans (congrArg some (by kernel_rfl))⟩
  f8 := ⟨Tryz.f50.name, by decide, Tryz.func50.trans (congrArg some (by kernel_rfl))⟩
  f11 := ⟨Tryz.f77.name, by decide, Tryz.func77.trans (congrArg some (by kernel_rfl))⟩
  t0 := Tryz.underlying0
  a0 := Tryz.isAgg0
  z0 := Tryz.sizeOf0
  v0 := Tryz.zeroValue0
  t24 := Tryz.underlying74
  a24 := Tryz.isAgg74
  z24 := Tryz.sizeOf74
  v24 := Tryz.zeroValue74
  t26 := Tryz.underlying3
  a26 := Tryz.isAgg3
  z26 := Tryz.sizeOf3
  v26 := Tryz.zeroValue3
  t28 := Tryz.underlying77
  a28 := Tryz.isAgg77
  z28 := Tryz.sizeOf77
  v28 := Tryz.zeroValue77
  i26 := by kernel_rfl }
def lsort_ren : Go.Shelf.Ren := ⟨fun | 5 => 51 | 8 => 79 | 7 => 78 | 19 => 102 | 20 => 103 | 10 => 93 | 11 => 94 | 12 => 95 | 13 => 96 | 14 => 97 | 15 => 98 | 16 => 99 | 17 => 100 | 18 => 101 | 30 => 108 | 31 => 109 | 32 => 110 | 33 => 111 | 34 => 112 | 35 => 113 | 40 => 118 | n => n, fun | 23 => 74 | 25 => 3 | 3 => 3 | 32 => 138 | 22 => 74 | 0 => 0 | 44 => 161 | 46 => 163 | 4 => 4 | 36 => 154 | 35 => 153 | 41 => 80 | 5 => 5 | 9 => 9 | 53 => 170 | 57 => 174 | 63 => 180 | 64 => 181 | n => n, fun | n => n⟩
theorem lsort : Go.Proofs.SlLaysM.n5 Tryz.prog lsort_ren := {
  mixed := by kernel_rfl
  f5 := ⟨Tryz.f51.name, by decide, Tryz.func51.trans (congrArg some (by kernel_rfl))⟩
  f7 := ⟨Tryz.f78.name, by decide, Tryz.func78.trans (congrArg some (by kernel_rfl))⟩
  f8 := Tryz.func79.trans (congrArg some (by kernel_rfl))
  f10 := ⟨Tryz.f93.name, by decide, Tryz.func93.trans (congrArg some (by kernel_rfl))⟩
  f11 := ⟨Tryz.f94.name, by decide, Tryz.func94.trans (congrArg some (by kernel_rfl))⟩
  f12 := ⟨Tryz.f95.name, by decide, Tryz.func95.trans (congrArg some (by kernel_rfl))⟩
  f13 := ⟨Tryz.f96.name, by decide, Tryz.func96.trans (congrArg some (by kernel_rfl))⟩
  f14 := ⟨Tryz.f97.name, by decide, Tryz.func97.trans (congrArg some (by kernel_rfl))⟩
  f15 := ⟨Tryz.f98.name, by decide, Tryz.func98.trans (congrArg some (by kernel_rfl))⟩
  f16 := ⟨Tryz.f99.name, by decide, Tryz.func99.trans (congrArg some (by kernel_rfl))⟩
  f17 := ⟨Tryz.f100.name, by decide, Tryz.func100.trans (congrArg some (by kernel_rfl))⟩
  f18 := ⟨Tryz.f101.name, by decide, Tryz.func101.trans (congrArg some (by kernel_rfl))⟩
  f19 := Tryz.func102.trans (congrArg some (by kernel_rfl))
  f20 := Tryz.func103.trans (congrArg some (by kernel_rfl))
  f30 := ⟨Tryz.f108.name, by decide, Tryz.func108.trans (congrArg some (by kernel_rfl))⟩
  f31 := Tryz.func109.trans (congrArg some (by kernel_rfl))
  f32 := Tryz.func110.trans (congrArg some (by kernel_rfl))
  f33 := ⟨Tryz.f111.name, by decide, Tryz.func111.trans (congrArg some (by kernel_rfl))⟩
  f34 := ⟨Tryz.f112.name, by decide, Tryz.func112.trans (congrArg some (by kernel_rfl))⟩
  f35 := ⟨Tryz.f113.name, by decide, Tryz.func113.trans (congrArg some (by kernel_rfl))⟩
  f40 := ⟨Tryz.f118.name, by decide, Tryz.func118.trans (congrArg some (by kernel_rfl))⟩
  t0 := Tryz.underlying0
  a0 := Tryz.isAgg0
  z0 := Tryz.sizeOf0
  v0 := Tryz.zeroValue0
  t3 := Tryz.underlying3
  a3 := Tryz.isAgg3
  z3 := Tryz.sizeOf3
  v3 := Tryz.zeroValue3
  t4 := Tryz.underlying4
  a4 := Tryz.isAgg4
  z4 := Tryz.sizeOf4
  v4 := Tryz.zeroValue4
  t5 := Tryz.underlying5
  a5 := Tryz.isAgg5
  z5 := Tryz.sizeOf5
  v5 := Tryz.zeroValue5
  t9 := Tryz.underlying9
  a9 := Tryz.isAgg9
  z9 := Tryz.sizeOf9
  v9 := Tryz.zeroValue9
  t22 := Tryz.underlying74
  a22 := Tryz.isAgg74
  z22 := Tryz.sizeOf74
  v22 := Tryz.zeroValue74
  t23 := Tryz.underlying74
  a23 := Tryz.isAgg74
  z23 := Tryz.sizeOf74
  v23 := Tryz.zeroValue74
  t25 := Tryz.underlying3
  a25 := Tryz.isAgg3
  z25 := Tryz.sizeOf3
  v25 := Tryz.zeroValue3
  t32 := Tryz.underlying138
  a32 := Tryz.isAgg138
  z32 := Tryz.sizeOf138
  v32 := Tryz.zeroValue138
  t35 := Tryz.underlying153
  a35 := Tryz.isAgg153
  z35 := Tryz.sizeOf153
  v35 := Tryz.zeroValue153
  t36 := Tryz.underlying154
  a36 := Tryz.isAgg154
  z36 := Tryz.sizeOf154
  v36 := Tryz.zeroValue154
  t41 := Tryz.underlying80
  a41 := Tryz.isAgg80
  z41 := Tryz.sizeOf80
  v41 := Tryz.zeroValue80
  t44 := Tryz.underlying161
  a44 := Tryz.isAgg161
  z44 := Tryz.sizeOf161
  v44 := Tryz.zeroValue161
  t46 := Tryz.underlying163
  a46 := Tryz.isAgg163
  z46 := Tryz.sizeOf163
  v46 := Tryz.zeroValue163
  t53 := Tryz.underlying170
  a53 := Tryz.isAgg170
  z53 := Tryz.sizeOf170
  v53 := Tryz.zeroValue170
  t57 := Tryz.underlying174
  a57 := Tryz.isAgg174
  z57 := Tryz.sizeOf174
  v57 := Tryz.zeroValue174
  t63 := Tryz.underlying180
  a63 := Tryz.isAgg180
  z63 := Tryz.sizeOf180
  v63 := Tryz.zeroValue180
  t64 := Tryz.underlying181
  a64 := Tryz.isAgg181
  z64 := Tryz.sizeOf181
  v64 := Tryz.zeroValue181 }
end Go.Proofs.YtcpmcfagibmboabGreat.Ksh

namespace Go.Proofs.YtcpmcfagibmboabGreat.Kk
open Go.RowKit Go.Maps Go.Sort Go.Shelf Kt Mp Cl Ksh
open Go.Proofs.YtcpmcfagibmboabGreat.Nm
set_option linter.unusedVariables false
set_option maxRecDepth 20000

abbrev vD (x : Dd) : Value := .int .i64 x.2
def iK (l : List Dd) : List Value := l.map fun (p : Dd) => Value.int .i64 p.1
theorem iK_len (l : List Dd) : (iK l).length = l.length := by simp [iK]
theorem intKeys_Dm (l : List Dd) : intKeys (Dm kD vD l) = l.map (fun (p : Dd) => p.1) := by
  simp only [Dm, intKeys, List.map_map]
  rfl
theorem sorts (m : Nat) : AnyZI.SortsIn Tryz.prog lsorted_ren Fence.wide m :=
  ⟨fun blk off cap ss W hH hblk hsz => callsIn_wide.2 (AnyM.slices_Sort_int lsort blk off cap ss W hH hblk hsz),
   fun p cap W => callsIn_wide.2 (AnyM.slices_Sort_int_none lsort p cap W)⟩
theorem keys_any (mb : Option Nat) (W : World) : Calls Tryz.prog 25 #[.map mb] W fun e w' => e = .returned (.func (.func 52) #[] #[.pointer (some ⟨W.heap.size, 0, none⟩)]) ∧ w' = W.alloc (.cells #[.map mb] 57) :=
  (callsIn_wide (n := 5)).1 (AnyZI.keys_in lkeys Fence.wide 5 trivial rfl mb W)
theorem sort_is {l : List Dd} (hs : Srt kD l) {ss : List Int} (h : ss.Perm (l.map fun (p : Dd) => p.1)) : (ss.mergeSort fun x y => decide (x ≤ y)) = l.map fun (p : Dd) => p.1 := by
  have h1 := mergeSort_of_perm_i h
  unfold leI at h1
  rw [h1]
  refine List.mergeSort_of_pairwise ?_
  rw [List.pairwise_map]
  exact List.Pairwise.imp (fun {a b} h => by simp; have h' : a.1 < b.1 := h; omega) hs

set_option maxHeartbeats 1000000 in
theorem sorted_any {w : World} {b : Nat} {l : List Dd} (hm : Md w b l) (hs : Srt kD l) (hl : l.length ≤ 100000) :
    Calls Tryz.prog 24 #[.func (.func 52) #[] #[.pointer (some ⟨w.heap.size, 0, none⟩)]] (w.alloc (.cells #[.map (some b)] 57)) fun e w' => ∃ ao cap, e = .returned (.slice ao l.length cap) ∧
      w'.ownsRow (w.heap.size + 1) 3 1 (.slice ao l.length cap) l.length (iK l) ∧ Below (w.heap.size + 1) (w.alloc (.cells #[.map (some b)] 57)) w' := by
  have hbl := hm.lt
  have hown : w.ownsMap Tryz.prog 3 vE b l.length (Dm kD vD l) := hm
  have hseq : SeqGives Fence.wide 2 Tryz.prog 52 #[.pointer (some ⟨w.heap.size, 0, none⟩)] encZ (fun ss => ss.Perm (intKeys (Dm kD vD l))) (Maps.size (Dm kD vD l)) (w.alloc (.cells #[.map (some b)] 57)) :=
    AnyZI.keys_gives (ρ := lkeys_ren) { lkeys with } Fence.wide _ trivial rfl (by omega) w.heap.size b l.length (Dm kD vD l) _ (by simp) (by simp) (hown.alloc _)
  refine (callsIn_wide (n := 5)).1 ?_
  refine (AnyZI.sorted_in lsorted Fence.wide 5 trivial trivial trivial trivial rfl (by omega) (sorts _) (enters_of Tryz.func51 (by kernel_rfl) rfl) 52 #[.pointer (some ⟨w.heap.size, 0, none⟩)] trivial (enters_of Tryz.func52 (by kernel_rfl) rfl) _ _ (by rw [Dm_size]; unfold maxLen; omega) (by rw [Dm_size]; omega) _ hseq).mono ?_
  rintro e w' ⟨v, ss, rfl, hS, hrow, hnil, hb⟩
  have hsz : (w.alloc (.cells #[.map (some b)] 57)).heap.size = w.heap.size + 1 := by simp
  rw [hsz] at hrow hb
  rw [intKeys_Dm] at hS
  have hlen : ss.length = l.length := by rw [hS.length_eq]; simp
  rw [sort_is hs hS, hlen] at hrow
  have e1 : (l.map fun (p : Dd) => p.1).map encZ = iK l := by simp [iK, encZ]
  rw [e1] at hrow
  obtain ⟨ao, cap, rfl⟩ := own_form hrow
  exact ⟨ao, cap, rfl, hrow, hb⟩
end Go.Proofs.YtcpmcfagibmboabGreat.Kk

namespace Go.Proofs.YtcpmcfagibmboabGreat.Fw
open Go.RowKit Kt Pl Rd Wr
set_option linter.unusedVariables false

theorem Row_take {w : World} {ao : Option Addr} {bs : List UInt8} (h : Row w ao bs) (k : Nat) : Row w ao (bs.take k) := by
  intro hl
  rw [List.length_take] at hl
  obtain ⟨b, off, e, hc⟩ := h (by omega)
  refine ⟨b, off, e, fun i hi => ?_⟩
  rw [List.length_take] at hi
  rw [hc i (by omega)]
  simp [show i < k by omega]

/-- 'b[k:]', its address as the walk writes it. -/
theorem Row_drop {w : World} {ao : Option Addr} {bs : List UInt8} (h : Row w ao bs) {k cap : Nat} (hc : bs.length ≤ cap) : Row w (if cap = k then ao else Option.map (fun x => x.add k) ao) (bs.drop k) := by
  intro hl
  rw [List.length_drop] at hl
  obtain ⟨b, off, e, hcl⟩ := h (by omega)
  rw [if_neg (by omega), e]
  refine ⟨b, off + k, by simp [Addr.add], fun i hi => ?_⟩
  rw [List.length_drop] at hi
  rw [Nat.add_assoc, hcl (k + i) (by omega)]
  simp

theorem enc300 : enc 300 = [172, 2] := by rw [enc_ge (by omega), enc_lt (by omega)]; rfl
theorem enc2 : enc 2 = [2] := by rw [enc_lt (by omega)]; rfl
end Go.Proofs.YtcpmcfagibmboabGreat.Fw

namespace Go.Proofs.YtcpmcfagibmboabGreat.Rd
open Go.RowKit Kt Pl Wr Fw
set_option linter.unusedVariables false

set_option maxHeartbeats 400000 in
set_option maxRecDepth 20000 in
theorem readCount_any (w : World) (ao : Option Addr) (cap lim : Nat) (bs : List UInt8) (hr : Row w ao bs) (hlen : bs.length ≤ 1000000000) (_hlim : lim ≤ 5000) :
    Calls Tryz.prog 104 #[.slice ao bs.length cap, .int .i64 lim] w fun e w' => e = ans (readCount bs lim) ∧ w' = w := by
  have H := readNum_any w ao cap bs hr hlen
  rcases readNum_err bs with ⟨n, k, h⟩ | h | h
  · by_cases hl : n ≤ lim
    · have hb := readNum_once h
      have HE : Hid (readCount bs lim = (n, k, 0)) := readCount_ok h hl
      rw [h] at H
      have c1 : ¬ ((lim : Int) < (n : Int)) := by omega
      clear h
      go_enter Tryz.func104, Tryz.ntmps104
      go_wp2_with fail
      refine H.mono ?_
      unfold ans
      rintro e w1 ⟨rfl, rfl⟩
      clear H
      go_wp2
      go_ret3
      exact ⟨by rw [HE.out]; rfl, rfl⟩
    · have HE : Hid (readCount bs lim = (0, 0, 3)) := mkH (by unfold readCount; rw [h]; simp [show lim < n by omega])
      rw [h] at H
      have c1 : (lim : Int) < (n : Int) := by omega
      clear h hl
      go_enter Tryz.func104, Tryz.ntmps104
      go_wp2_with fail
      refine H.mono ?_
      unfold ans
      rintro e w1 ⟨rfl, rfl⟩
      clear H
      go_wp2
      go_ret3
      exact ⟨by rw [HE.out]; rfl, rfl⟩
  · have HE : Hid (readCount bs lim = (0, 0, 4)) := mkH (by unfold readCount; rw [h]; simp)
    rw [h] at H
    clear h
    go_enter Tryz.func104, Tryz.ntmps104
    go_wp2_with fail
    refine H.mono ?_
    unfold ans
    rintro e w1 ⟨rfl, rfl⟩
    clear H
    go_wp2
    go_ret3
    exact ⟨by rw [HE.out]; rfl, rfl⟩
  · have HE : Hid (readCount bs lim = (0, 0, 5)) := mkH (by unfold readCount; rw [h]; simp)
    rw [h] at H
    clear h
    go_enter Tryz.func104, Tryz.ntmps104
    go_wp2_with fail
    refine H.mono ?_
    unfold ans
    rintro e w1 ⟨rfl, rfl⟩
    clear H
    go_wp2
    go_ret3
    exact ⟨by rw [HE.out]; rfl, rfl⟩

/-- What ReadText hands back. -/
def ansT (r : List UInt8 × Nat × Nat) : Ending := .returned (.tuple #[.string (S r.1), .int .i64 (r.2.1 : Int), .int .i64 (r.2.2 : Int)])

set_option maxHeartbeats 400000 in
set_option maxRecDepth 20000 in
theorem readText_any (w : World) (ao : Option Addr) (cap : Nat) (bs : List UInt8) (hr : Row w ao bs) (hlen : bs.length ≤ 1000000000) (hcap : bs.length ≤ cap) (hc63 : cap ≤ 9223372036854775807) :
    Calls Tryz.prog 89 #[.slice ao bs.length cap] w fun e w' => e = ansT (readText bs) ∧ w' = w := by
  have H := readCount_any w ao cap 4096 bs hr hlen (by omega)
  rcases readCount_cases bs 4096 with ⟨n, k, h1, h2, h3⟩ | ⟨er, h1, h3⟩
  · have hb := readNum_once h1
    have hk1 := hb.1
    have hk2 := hb.2.1
    clear hb h1
    rw [h3] at H
    by_cases hs : bs.length - k < n
    · have HE : Hid (readText bs = ([], 0, 4)) := mkH (by unfold readText; rw [h3]; simp [hs])
      have c1 : (bs.length : Int) - (k : Int) < (n : Int) := by omega
      clear h3
      go_enter Tryz.func89, Tryz.ntmps89
      go_wp2_with fail
      refine H.mono ?_
      unfold ans
      rintro e w1 ⟨rfl, rfl⟩
      clear H
      go_wp2
      go_ret3
      exact ⟨by rw [HE.out]; rfl, rfl⟩
    · have HE : Hid (readText bs = ((bs.drop k).take n, k + n, 0)) := mkH (by unfold readText; rw [h3]; simp [hs])
      have c1 : ¬ ((bs.length : Int) - (k : Int) < (n : Int)) := by omega
      have hln : ((bs.drop k).take n).length = n := by rw [List.length_take, List.length_drop]; omega
      have hs1 := run_string (P := Tryz.prog) (src := 34) (dst := 9) Tryz.underlying34 Tryz.underlying5 Tryz.underlying9 (Row_take (Row_drop hr (k := k) hcap) n) (cap - k)
      rw [hln] at hs1
      clear h3 hs hr hln
      go_enter Tryz.func89, Tryz.ntmps89
      go_wp2_with fail
      refine H.mono ?_
      unfold ans
      rintro e w1 ⟨rfl, rfl⟩
      clear H
      go_wp2
      all_goals
        go_ret3
        exact ⟨by rw [HE.out]; simp [ansT], rfl⟩
  · have HE : Hid (readText bs = ([], 0, er)) := mkH (by unfold readText; rw [h3]; rcases h1 with rfl | rfl | rfl <;> simp)
    rw [h3] at H
    clear h3 hr
    rcases h1 with rfl | rfl | rfl
    all_goals
      go_enter Tryz.func89, Tryz.ntmps89
      go_wp2_with fail
      refine H.mono ?_
      unfold ans
      rintro e w1 ⟨rfl, rfl⟩
      clear H
      go_wp2
      go_ret3
      exact ⟨by rw [HE.out]; rfl, rfl⟩
end Go.Proofs.YtcpmcfagibmboabGreat.Rd

namespace Go.Proofs.YtcpmcfagibmboabGreat.Ad
open Go.RowKit Kt Pl Rd Wr Fw
set_option linter.unusedVariables false

/-- A slice of numbers, as it is read. -/
def RowI (w : World) (ao : Option Addr) (l : List Int) : Prop :=
  0 < l.length → ∃ b off, ao = some ⟨b, off, none⟩ ∧ ∀ i, i < l.length → w.cell? ⟨b, off + i, none⟩ = some (.int .i64 (l.getD i 0))

theorem RowI.below {w w' : World} {ao : Option Addr} {l : List Int} (h : RowI w ao l) (hb : Below w.heap.size w w') : RowI w' ao l := by
  intro hl
  obtain ⟨b, off, e, hc⟩ := h hl
  refine ⟨b, off, e, fun i hi => ?_⟩
  have h1 := hc i hi
  rw [hb.cell (p := ⟨b, off + i, none⟩) (World.block_lt_of_cell? w _ h1)]
  exact h1

theorem RowI.own {w : World} {base e n : Nat} {ao : Option Addr} {cap : Nat} {l : List Nat} (h : w.ownsRow base e 1 (.slice ao n cap) n (I l)) : n = l.length ∧ n ≤ cap ∧ RowI w ao (l.map fun (n : Nat) => (n : Int)) := by
  have hn : n = l.length := by have := h.1; rw [I_length] at this; omega
  subst hn
  refine ⟨rfl, ?_, fun hl => ?_⟩
  · rcases h.2 with ⟨e1, e2⟩ | ⟨g, c, cur, e1, _, _, e2, _⟩
    · simp [e2]
    · simp only [Value.slice.injEq] at e1; omega
  · simp only [List.length_map] at hl ⊢
    rcases h.2 with ⟨e1, e2⟩ | ⟨g, c, cur, e1, _, hg, _, _, _, ht⟩
    · omega
    · simp only [Value.slice.injEq] at e1
      obtain ⟨rfl, _, rfl⟩ := e1
      refine ⟨g, 0, rfl, fun i hi => ?_⟩
      have := World.ownsRow.cellAt h i (by omega)
      rw [Nat.zero_add, this]
      simp [I, List.getD, List.getElem?_eq_getElem hi]

/-- A number that may be written. -/
def okN (x : Int) : Prop := 0 ≤ x ∧ x ≤ 4611686018427387904
def eI (x : Int) : List UInt8 := enc x.toNat

/-- What has been written of a list behind k items. -/
def pre {α : Type} (e : α → List UInt8) (l : List α) (k : Nat) : List UInt8 := enc l.length ++ (l.take k).flatMap e
theorem pre_zero {α : Type} (e : α → List UInt8) (l : List α) : pre e l 0 = enc l.length := by simp [pre]
theorem pre_all {α : Type} (e : α → List UInt8) (l : List α) : pre e l l.length = encList e l := by simp [pre, encList]
theorem pre_succ {α : Type} (e : α → List UInt8) (l : List α) (k : Nat) (x : α) (h : l[k]? = some x) : pre e l (k + 1) = pre e l k ++ e x := by
  obtain ⟨hk, rfl⟩ := List.getElem?_eq_some_iff.1 h
  unfold pre
  rw [List.take_succ_eq_append_getElem hk, List.flatMap_append]
  simp

theorem pre_len {l : List Int} {k : Nat} (hk : k ≤ l.length) (hl : l.length ≤ 1024) (hok : ∀ i x, i < k → l[i]? = some x → okN x) : (pre eI l k).length ≤ 9 + 9 * k := by
  induction k with
  | zero => rw [pre_zero]; have := enc_len9 (n := l.length) (by omega); omega
  | succ k ih =>
    have h1 : l[k]? = some l[k] := List.getElem?_eq_getElem (by omega)
    rw [pre_succ _ _ _ _ h1, List.length_append]
    have h2 := ih (by omega) (fun i x hi => hok i x (by omega))
    have h3 := hok k _ (by omega) h1
    have h4 : (eI l[k]).length ≤ 9 := enc_len9 (by have := h3.2; have := h3.1; omega)
    omega

theorem own_cat {w : World} {base e m : Nat} {v : Value} {bs p q : List UInt8} (h : w.ownsRow base e 1 v (m + p.length + q.length) (U (bs ++ p ++ q))) : w.ownsRow base e 1 v (m + (p ++ q).length) (U (bs ++ (p ++ q))) := by
  rw [List.length_append, ← List.append_assoc, ← Nat.add_assoc]; exact h
end Go.Proofs.YtcpmcfagibmboabGreat.Ad

namespace Go.Proofs.YtcpmcfagibmboabGreat.At
open Go.RowKit Kt Pl Rd Wr Fw
open Ad (pre pre_zero pre_all pre_succ own_cat)
set_option linter.unusedVariables false

/-- A slice of texts, as it is read. -/
def RowT (w : World) (ao : Option Addr) (l : List (List UInt8)) : Prop :=
  0 < l.length → ∃ b off, ao = some ⟨b, off, none⟩ ∧ ∀ i, i < l.length → w.cell? ⟨b, off + i, none⟩ = some (.string (S (l.getD i [])))

theorem RowT.below {w w' : World} {ao : Option Addr} {l : List (List UInt8)} (h : RowT w ao l) (hb : Below w.heap.size w w') : RowT w' ao l := by
  intro hl
  obtain ⟨b, off, e, hc⟩ := h hl
  refine ⟨b, off, e, fun i hi => ?_⟩
  have h1 := hc i hi
  rw [hb.cell (p := ⟨b, off + i, none⟩) (World.block_lt_of_cell? w _ h1)]
  exact h1

theorem RowT.own {w : World} {base e n : Nat} {ao : Option Addr} {cap : Nat} {l : List (List UInt8)} (h : w.ownsRow base e 1 (.slice ao n cap) n (T l)) : n = l.length ∧ n ≤ cap ∧ RowT w ao l := by
  have hn : n = l.length := by have := h.1; rw [T_length] at this; omega
  subst hn
  refine ⟨rfl, ?_, fun hl => ?_⟩
  · rcases h.2 with ⟨e1, e2⟩ | ⟨g, c, cur, e1, _, _, e2, _⟩
    · simp [e2]
    · simp only [Value.slice.injEq] at e1; omega
  · rcases h.2 with ⟨e1, e2⟩ | ⟨g, c, cur, e1, _, hg, _, _, _, ht⟩
    · omega
    · simp only [Value.slice.injEq] at e1
      obtain ⟨rfl, _, rfl⟩ := e1
      refine ⟨g, 0, rfl, fun i hi => ?_⟩
      have := World.ownsRow.cellAt h i (by omega)
      rw [Nat.zero_add, this]
      simp [T, List.getD, List.getElem?_eq_getElem hi]

/-- A text that may be written. -/
def okT (x : List UInt8) : Prop := x.length ≤ 4096

theorem pre_len {l : List (List UInt8)} {k : Nat} (hk : k ≤ l.length) (hl : l.length ≤ 1024) (hok : ∀ i x, i < k → l[i]? = some x → okT x) : (pre encText l k).length ≤ 9 + 4105 * k := by
  induction k with
  | zero => rw [pre_zero]; have := enc_len9 (n := l.length) (by omega); omega
  | succ k ih =>
    have h1 : l[k]? = some l[k] := List.getElem?_eq_getElem (by omega)
    rw [pre_succ _ _ _ _ h1, List.length_append]
    have h2 := ih (by omega) (fun i x hi => hok i x (by omega))
    have h3 := hok k _ (by omega) h1
    have h4 : (encText l[k]).length ≤ 4105 := by unfold encText; rw [List.length_append]; unfold okT at h3; have := enc_len9 (n := l[k].length) (by omega); omega
    omega

theorem own_cat {w : World} {base e m : Nat} {v : Value} {bs p q : List UInt8} (h : w.ownsRow base e 1 v (m + p.length + q.length) (U (bs ++ p ++ q))) : w.ownsRow base e 1 v (m + (p ++ q).length) (U (bs ++ (p ++ q))) := by
  rw [List.length_append, ← List.append_assoc, ← Nat.add_assoc]; exact h

set_option maxHeartbeats 1000000 in
set_option maxRecDepth 20000 in
theorem addList_any (w : World) (base : Nat) (v : Value) (m : Nat) (bs : List UInt8) (hown : w.ownsRow base 5 1 v m (U bs)) (hb : base ≤ w.heap.size) (hm : m ≤ 1000000000)
    (ao : Option Addr) (cap : Nat) (l : List (List UInt8)) (hrow : ∀ w', Below base w w' → RowT w' ao l) (hl : l.length ≤ 1024) :
    Calls Tryz.prog 64 #[v, .slice ao l.length cap, .func (Fn.func 63) #[] #[]] w fun e w' =>
      ((∀ x ∈ l, okT x) ∧ ∃ v', e = .returned (.tuple #[v', .int .i64 0]) ∧ w'.ownsRow base 5 1 v' (m + (encList encText l).length) (U (bs ++ encList encText l)) ∧ Below base w w') ∨
      ((¬ ∀ x ∈ l, okT x) ∧ e = .returned (.tuple #[.slice none 0 0, .int .i64 3]) ∧ Below base w w') := by
  go_enter Tryz.func64, Tryz.ntmps64
  go_wp2_with fail
  refine (addCount_ok w base v m l.length 1024 bs hown hb (by omega) hl (by omega)).mono ?_
  rintro e w1 ⟨v1, rfl, hown1, hb1⟩
  rw [← pre_zero encText] at hown1
  clear hown
  go_wp2
  go_loopw [0, 23] (fun v2 ct wr => ∃ k : Nat, k ≤ l.length ∧ ct = .int .i64 k ∧ Hid (∀ i x, i < k → l[i]? = some x → okT x) ∧ wr.ownsRow base 5 1 v2 (m + (pre encText l k).length) (U (bs ++ pre encText l k)) ∧ Below base w wr)
    (fun _ ct _ => l.length - (intOf ct).toNat)
  case atStart => exact ⟨0, Nat.zero_le _, rfl, mkH (fun i x hi => by omega), hown1, hb1⟩
  case round =>
    obtain ⟨k, hk, rfl, hok, hown2, hb2⟩ := hrel
    have hpl := pre_len hk hl hok.out
    have hsz := hb2.size
    clear hown1 hb1
    by_cases hlt : k < l.length
    · obtain ⟨b, off, hao, hc⟩ := hrow wr hb2 (by omega)
      obtain ⟨x, hx⟩ : ∃ x, l[k]? = some x := ⟨_, List.getElem?_eq_getElem hlt⟩
      have hck : wr.cell? ⟨b, off + k, none⟩ = some (.string (S x)) := by rw [hc k hlt]; simp [List.getD, hx]
      subst hao
      have HX : Hid (l[k]? = some x) := hx
      clear hc hx
      by_cases hg : x.length ≤ 4096
      · have hps := pre_succ encText l k _ HX.out
        have HS : Hid (pre encText l (k + 1) = pre encText l k ++ encText x) := mkH hps
        have hok2 : Hid (∀ i x, i < k + 1 → l[i]? = some x → okT x) := mkH (by
          intro i y hi hy
          by_cases hik : i = k
          · subst hik; rw [HX.out] at hy; cases hy; exact hg
          · exact hok.out i y (by omega) hy)
        have HA := addText_ok wr base u0 (m + (pre encText l k).length) (S x) (bs ++ pre encText l k) hown2 (by omega) (by omega) hg
        clear hps hg hown2 hok HX
        go_wp2_with fail
        refine HA.mono ?_
        rintro e w3 ⟨v3, rfl, hown3, hb3⟩
        clear HA
        have hown4 : w3.ownsRow base 5 1 v3 (m + (pre encText l k ++ encText x).length) (U (bs ++ (pre encText l k ++ encText x))) := own_cat hown3
        rw [← HS.out] at hown4
        have hb4 := hb2.trans hb3
        clear hown3 hb3 hb2 HS hck
        go_wp2
        go_roundw
        case rel => exact ⟨k + 1, by omega, by go_num, hok2, hown4, hb4⟩
        case measure => simp [intOf]; omega
      · have HA := addText_bad wr u0 (S x) (Nat.lt_of_not_le hg)
        have HF : Hid (¬ ∀ x ∈ l, okT x) := mkH (fun h => hg (h x (List.mem_of_getElem? HX.out)))
        clear hg hok HX hown2
        go_wp2_with fail
        refine HA.mono ?_
        rintro e w3 ⟨rfl, rfl⟩
        clear HA
        go_wp2
        go_ret2
        exact .inr ⟨HF.out, rfl, hb2⟩
    · obtain rfl : k = l.length := by omega
      have HF : Hid (∀ x ∈ l, okT x) := mkH (fun x hx => by
        obtain ⟨i, hi⟩ := List.mem_iff_getElem?.1 hx
        obtain ⟨hil, _⟩ := List.getElem?_eq_some_iff.1 hi
        exact hok.out i x hil hi)
      clear hok
      rw [pre_all] at hown2
      go_wp2
      go_ret2
      exact .inl ⟨HF.out, _, rfl, hown2, hb2⟩

set_option maxHeartbeats 400000 in
set_option maxRecDepth 20000 in
theorem addList_long (w : World) (v : Value) (ao : Option Addr) (cap n : Nat) (hl : 1024 < n) :
    Calls Tryz.prog 64 #[v, .slice ao n cap, .func (Fn.func 63) #[] #[]] w fun e w' => e = .returned (.tuple #[.slice none 0 0, .int .i64 3]) ∧ w' = w := by
  go_enter Tryz.func64, Tryz.ntmps64
  go_wp2_with fail
  refine (addCount_bad w v n 1024 hl).mono ?_
  rintro e w1 ⟨rfl, rfl⟩
  go_wp2
  go_ret2
  exact ⟨rfl, rfl⟩

set_option maxHeartbeats 400000 in
set_option maxRecDepth 20000 in
theorem texts_any (w : World) (bo : Option Addr) (bcap : Nat) (bs : List UInt8) (hr : Row w bo bs) (hlen : bs.length ≤ 1000000000) (ao : Option Addr) (cap : Nat) (l : List (List UInt8)) (hrow : RowT w ao l) (hl : l.length ≤ 1024) :
    Calls Tryz.prog 40 #[.slice bo bs.length bcap, .slice ao l.length cap] w fun e w' =>
      ((∀ x ∈ l, okT x) ∧ ∃ v', e = .returned (.tuple #[v', .int .i64 0]) ∧ w'.ownsRow w.heap.size 5 1 v' (bs.length + (encList encText l).length) (U (bs ++ encList encText l)) ∧ Below w.heap.size w w') ∨
      ((¬ ∀ x ∈ l, okT x) ∧ e = .returned (.tuple #[.slice none 0 0, .int .i64 3]) ∧ Below w.heap.size w w') := by
  go_enter Tryz.func40, Tryz.ntmps40
  go_wp2_with fail
  refine (clone_any w bo bcap bs hr hlen).mono ?_
  rintro e w1 ⟨v1, rfl, hown1, hb1⟩
  go_wp2_with fail
  refine (addList_any w1 w.heap.size v1 bs.length bs hown1 hb1.size hlen ao cap l (fun w' hb => hrow.below (hb1.trans hb)) hl).mono ?_
  rintro e w2 (⟨hg, v2, rfl, hown2, hb2⟩ | ⟨hg, rfl, hb2⟩)
  · have HG := mkH hg
    clear hg
    go_wp2
    go_ret2
    exact .inl ⟨HG.out, v2, rfl, hown2, hb1.trans hb2⟩
  · have HG := mkH hg
    clear hg
    go_wp2
    go_ret2
    exact .inr ⟨HG.out, rfl, hb1.trans hb2⟩

set_option maxHeartbeats 400000 in
set_option maxRecDepth 20000 in
theorem texts_long (w : World) (bo : Option Addr) (bcap : Nat) (bs : List UInt8) (hr : Row w bo bs) (hlen : bs.length ≤ 1000000000) (ao : Option Addr) (cap n : Nat) (hl : 1024 < n) :
    Calls Tryz.prog 40 #[.slice bo bs.length bcap, .slice ao n cap] w fun e w' => e = .returned (.tuple #[.slice none 0 0, .int .i64 3]) ∧ Below w.heap.size w w' := by
  go_enter Tryz.func40, Tryz.ntmps40
  go_wp2_with fail
  refine (clone_any w bo bcap bs hr hlen).mono ?_
  rintro e w1 ⟨v1, rfl, hown1, hb1⟩
  go_wp2_with fail
  refine (addList_long w1 v1 ao cap n hl).mono ?_
  rintro e w2 ⟨rfl, rfl⟩
  go_wp2
  go_ret2
  exact ⟨rfl, hb1⟩
end Go.Proofs.YtcpmcfagibmboabGreat.At

namespace Go.Proofs.YtcpmcfagibmboabGreat.Mq
open Go.RowKit Go.Shelf Pl Gf Gk Ct Cu La Mp Cl Ma Cp
open Cr hiding some_of
open Kt
open At (RowT)
open Go.Proofs.YtcpmcfagibmboabGreat.Nm (Srt atX mem_at)
open Kk (iK)
set_option linter.unusedVariables false
set_option linter.unusedSimpArgs false
set_option maxRecDepth 20000

/-- The texts of a machine's dump. -/
noncomputable def dmp (e : Int) (ps : List Pc) (s : Int) (D : List Dd) : List (List UInt8) := [txt [s], txt (nums e ps.length ps), txt (D.flatMap n2)]
/-- What Dump answers. -/
def DuP (w : World) (e : Int) (ps : List Pc) (s : Int) (D : List Dd) (x : Ending) (w' : World) : Prop := ∃ ao cap, x = .returned (.tuple #[.slice ao 3 cap, .int .i64 0]) ∧ RowT w' ao (dmp e ps s D) ∧ Below w.heap.size w w'
theorem n2_snoc (D : List Dd) (k : Nat) (x : Dd) (h : D[k]? = some x) : (D.take (k + 1)).flatMap n2 = (D.take k).flatMap n2 ++ [x.1, x.2] := by
  rw [List.take_add_one, h, List.flatMap_append]
  rfl

theorem rowI_of {W : World} {b : Nat} {cs : Array Value} {t : TypeId} (h : Bx W b cs t) (l : List Int) (hl : cs = (l.map (Value.int .i64)).toArray) : RowI W (some ⟨b, 0, none⟩) l := by
  intro _
  refine ⟨b, 0, rfl, fun i hi => ?_⟩
  subst hl
  rw [Nat.zero_add]
  exact h.cell i _ (by simp [List.getD, List.getElem?_eq_getElem hi])
theorem rowT3 (w : World) (a b c : List UInt8) (t : TypeId) : RowT (w.alloc (.cells #[.string (S a), .string (S b), .string (S c)] t)) (some ⟨w.heap.size, 0, none⟩) [a, b, c] := by
  intro _
  have h : Bx (w.alloc (.cells #[.string (S a), .string (S b), .string (S c)] t)) w.heap.size #[.string (S a), .string (S b), .string (S c)] t := Bx.new _ _ _
  refine ⟨w.heap.size, 0, rfl, fun i hi => ?_⟩
  have h3 : i < 3 := hi
  rw [Nat.zero_add]
  obtain rfl | rfl | rfl : i = 0 ∨ i = 1 ∨ i = 2 := by omega
  · exact h.cell 0 _ rfl
  · exact h.cell 1 _ rfl
  · exact h.cell 2 _ rfl
theorem last_mem {D : List Dd} (h : Srt kD D) {x : Dd} (hx : x ∈ D) : lastN D x.1 = x.2 := by
  unfold lastN
  rw [show atX kD D x.1 = some x from mem_at h hx]

set_option maxHeartbeats 4000000 in
theorem mdump_any {w : World} {b m : Nat} {e : Int} {ps : List Pc} {s : Int} {D : List Dd} (h : Mk w b m e ps s D) (hl : ps.length ≤ 30000) (hm : Cp.mayC e ps = true) (hs : 0 ≤ s ∧ s ≤ 4611686018427387904)
    (hD : Srt kD D ∧ D.length ≤ 10000 ∧ ∀ x ∈ D, okN x.1 ∧ okN x.2) :
    Calls Tryz.prog 8 #[.pointer (some ⟨b, 0, none⟩)] w (DuP w e ps s D) := by
  have HMA := mkH (made_any h)
  have HMK := mkH h
  obtain ⟨⟨a, c, q1, q2⟩, q3⟩ := h
  have HDU := mkH (dump_any w e a c ps q2 hl)
  rw [dmpV_may hm] at HDU
  have c0 : w.cell? ⟨b, 0, none⟩ = some (.int .i64 e) := q1.cell 0 _ rfl
  have c1 : w.cell? ⟨b, 1, none⟩ = some (.slice a ps.length c) := q1.cell 1 _ rfl
  have HC : Hid (∀ W, Below w.heap.size w W → W.cell? ⟨b, 2, none⟩ = some (.int .i64 s) ∧ W.cell? ⟨b, 3, none⟩ = some (.map (some m))) := mkH (fun W hb => ⟨(q1.bel hb).cell 2 _ rfl, (q1.bel hb).cell 3 _ rfl⟩)
  have HD := mkH hD
  have HS := mkH hs
  clear q1 q2 q3 hD
  go_enter Tryz.func8, Tryz.ntmps8
  go_wp2_with fail
  refine HMA.out.mono ?_
  rintro x w2 ⟨rfl, rfl⟩
  clear HMA
  go_wp2_with fail
  refine HDU.out.mono ?_
  rintro x w3 ⟨rfl, hb3⟩
  obtain ⟨d2, d3⟩ := HC.out w3 hb3
  have HMK3 := mkH (HMK.out.below hb3)
  have HB3 := mkH hb3
  clear c0 c1 hb3 HDU
  have HKE := mkH (Kk.keys_any (some m) w3)
  go_wp2_with fail
  refine HKE.out.mono ?_
  rintro x w4 ⟨rfl, rfl⟩
  have HSO := mkH (Kk.sorted_any HMK3.out.map HD.out.1 (by have := HD.out.2.1; omega))
  clear HKE
  go_wp2_with fail
  refine HSO.out.mono ?_
  rintro x w5 ⟨ao, cap, rfl, ho5, hb5⟩
  have hIK : iK D = J (D.map (fun x : Dd => x.1)) := by simp [iK, J]
  rw [hIK] at ho5
  have hz4 : (w3.alloc (.cells #[.map (some m)] 57)).heap.size = w3.heap.size + 1 := by simp
  have hb5' : Below w3.heap.size w3 w5 := ((Below.refl _ w3).alloc (Nat.le_refl _) _).trans (hb5.mono (by omega))
  have HRI := mkH (RowI.own (l := D.map (fun x : Dd => x.1)) ho5).2
  have HB5 := mkH (HB3.out.trans (hb5'.mono HB3.out.size))
  have HM5 := mkH (HMK3.out.below hb5')
  clear ho5 hb5 hb5' HSO hIK d2 d3 hz4
  go_wp2_with fail
  clear HMK3
  go_loopw [6, 30] (fun v i wr => ∃ k : Nat, k ≤ D.length ∧ i = .int .i64 k ∧ Hid (wr.ownsRow w5.heap.size 3 1 v (2 * k) (J ((D.take k).flatMap n2))) ∧ Hid (Below w5.heap.size w5 wr)) (fun _ i _ => D.length - (intOf i).toNat)
  case atStart => exact ⟨0, Nat.zero_le _, rfl, mkH ⟨by simp [J], .inl ⟨rfl, rfl⟩⟩, mkH (Below.refl _ _)⟩
  case round =>
    obtain ⟨k, hk, rfl, HO, HB⟩ := hrel
    obtain ⟨av, cv, rfl⟩ := own_form HO.out
    have hwz := HB.out.size
    have hDl := HD.out.2.1
    by_cases hlt : k < D.length
    · obtain ⟨x, hx⟩ := Cr.some_of hlt
      have hxm := List.mem_of_getElem? hx
      obtain ⟨bk, ok, rfl, hck⟩ := (HRI.out.below HB.out) (by simp; omega)
      have hck' := hck k (by simpa using hlt)
      rw [show (D.map (fun x : Dd => x.1)).getD k 0 = x.1 by simp [List.getD, List.getElem?_map, hx]] at hck'
      have hi : (k : Int) < (D.length : Int) := by omega
      have hi0 : (0 : Int) ≤ (k : Int) := by omega
      have hokx := HD.out.2.2 x hxm
      have hlook := (HM5.out.map.below HB.out).look (k := x.1) (Rc.wf_int (by have := hokx.1.1; omega) (by have := hokx.1.2; omega))
      rw [last_mem HD.out.1 hxm] at hlook
      obtain ⟨-, d3⟩ := HC.out wr (HB5.out.trans (HB.out.mono HB5.out.size))
      have HNX := mkH (n2_snoc D k x hx)
      have hal : Below wr.heap.size wr (wr.alloc (.cells #[.int .i64 x.1, .int .i64 x.2] 3)) := (Below.refl _ wr).alloc (Nat.le_refl _) _
      have HO2 := mkH (own_below HO.out hal)
      have HB2 := mkH (HB.out.trans (hal.mono hwz))
      have HSR := mkH (RowI.src (rowI_of (Bx.new wr #[.int .i64 x.1, .int .i64 x.2] 3) [x.1, x.2] rfl) 2)
      clear hck hx hxm hokx hal HO HB
      go_wp2_with (at_builtin; refine (wpList_append_own_src _ rfl (.tmp 34) (.tmp 42) 74 74 rfl w5.heap.size 3 (.int .i64 0) 1 8 Tryz.underlying74 info3 rfl (by decide) _ (2 * k) (J ((D.take k).flatMap n2)) rfl HO2.out _ 2 (J [x.1, x.2]) rfl HSR.out ?h632 ?hby2 ?hbs2 ?_))
      case h632 => unfold maxLen; omega
      case hby2 => omega
      case hbs2 => simp; omega
      intro v2 w7 hown7 hgrow7
      have hb7 := below_own HO2.out hgrow7 HB2.out (by simp; omega)
      have HO7 : Hid (w7.ownsRow w5.heap.size 3 1 v2 (2 * (k + 1)) (J ((D.take (k + 1)).flatMap n2))) := mkH (by rw [HNX.out, J_append]; exact hown7)
      have HB7 := mkH hb7
      clear hown7 hgrow7 hb7 HO2 HB2 HSR HNX hlook hck' d3
      go_wp2
      go_roundw
      case rel => exact ⟨k + 1, by omega, by go_num, HO7, HB7⟩
      case measure => simp [intOf]; omega
    · have hkl : k = D.length := by omega
      subst hkl
      rw [List.take_length] at HO
      obtain ⟨d2, -⟩ := HC.out wr (HB5.out.trans (HB.out.mono HB5.out.size))
      have hl2 : (D.flatMap n2).length = 2 * D.length := flat2_len D
      have hor := HO.out
      rw [← hl2] at hor
      have HR2 := mkH (RowI.own hor).2
      have hal : Below wr.heap.size wr (wr.alloc (.cells #[.int .i64 s] 3)) := (Below.refl _ wr).alloc (Nat.le_refl _) _
      have HT1 := mkH (textOf_any (wr.alloc (.cells #[.int .i64 s] 3)) (some ⟨wr.heap.size, 0, none⟩) 1 [s] (rowI_of (Bx.new wr #[.int .i64 s] 3) [s] rfl) (by intro x hx; have ex : x = s := (by simpa using hx); rw [ex]; exact HS.out) (by simp))
      have HBa := mkH ((HB5.out.trans (HB.out.mono HB5.out.size)).trans (hal.mono (by have := HB5.out.size; omega)))
      have HRa := mkH (HR2.out.below hal)
      have HL2 := mkH hl2
      have HOKC : Hid (∀ y ∈ D.flatMap n2, okN y) := mkH (by
        intro y hy
        obtain ⟨x, hx, hy⟩ := List.mem_flatMap.1 hy
        have := HD.out.2.2 x hx
        simp [n2] at hy
        rcases hy with rfl | rfl
        · exact this.1
        · exact this.2)
      clear hor hal hl2 HO HB HR2
      simp only [List.length_cons, List.length_nil, Nat.zero_add] at HT1
      go_wp2_with fail
      refine HT1.out.mono ?_
      rintro x w7 ⟨rfl, hb7⟩
      have HT2 := mkH (textOf_any w7 av cv (D.flatMap n2) (HRa.out.below hb7) HOKC.out (by rw [HL2.out]; omega))
      rw [HL2.out] at HT2
      have HB7 := mkH (HBa.out.trans (hb7.mono HBa.out.size))
      clear hb7 HT1 HBa HRa
      go_wp2_with fail
      refine HT2.out.mono ?_
      rintro x w8 ⟨rfl, hb8⟩
      have HB8 := mkH ((HB7.out.trans (hb8.mono HB7.out.size)))
      clear hb8 HT2
      go_wp2
      go_ret2
      exact ⟨_, _, rfl, rowT3 _ _ _ _ _, HB8.out.alloc HB8.out.size _⟩
end Go.Proofs.YtcpmcfagibmboabGreat.Mq

namespace Go.Proofs.YtcpmcfagibmboabGreat.Rs
open Go.RowKit Pl Gf Gk Ct Cu La Lb
open Kt

set_option linter.unusedVariables false
set_option linter.unusedSimpArgs false
set_option maxRecDepth 20000

/-- A text is a number of slots. -/
def GoodS (bs : List UInt8) (n : Int) : Prop := Nums bs [n] ∧ n ≤ 1099511627776
theorem GoodS.inj {bs : List UInt8} {n m : Int} (h : GoodS bs n) (g : GoodS bs m) : m = n := by
  have := h.1.inj g.1
  simpa using this
/-- What readSlots answers. -/
def SlP (w : World) (bs : List UInt8) (x : Ending) (w' : World) : Prop := Below w.heap.size w w' ∧
  ((∃ n, GoodS bs n ∧ x = .returned (.tuple #[.int .i64 n, .bool true])) ∨ ((¬ ∃ n, GoodS bs n) ∧ x = .returned (.tuple #[.int .i64 0, .bool false])))

set_option maxHeartbeats 1000000 in
theorem readSlots_any (w : World) (bs : List UInt8) (hl : bs.length ≤ 1000) :
    Calls Tryz.prog 27 #[.string (S bs)] w (SlP w bs) := by
  go_enter Tryz.func27, Tryz.ntmps27
  go_wp2_with fail
  refine (numsOf_any w bs hl).mono ?_
  rintro e w1 ⟨hb, ⟨L, ao, cap, hn, rfl, ho⟩ | ⟨hn, rfl⟩⟩
  · have HB := mkH hb
    have HN := mkH hn
    obtain ⟨hlen, hrow⟩ := RowI.own ho
    by_cases h1 : L.length = 1
    · obtain ⟨x, rfl⟩ : ∃ x, L = [x] := List.length_eq_one_iff.1 h1
      obtain ⟨b, off, rfl, hc⟩ := hrow (by simp)
      have hc0 : w1.cell? ⟨b, off, none⟩ = some (.int .i64 x) := hc 0 (by simp)
      have hx := hn.2 x (by simp)
      have hx0 := hx.1
      clear hlen hrow hc ho hb hn hx h1
      simp only [List.length_cons, List.length_nil, Nat.zero_add]
      by_cases hgt : x ≤ 1099511627776
      · have HG := mkH (show GoodS bs x from ⟨HN.out, hgt⟩)
        have hgt2 : ¬ 1099511627776 < x := by omega
        go_wp2
        go_ret2
        exact ⟨HB.out, .inl ⟨x, HG.out, rfl⟩⟩
      · have HG := mkH (show ¬ ∃ n, GoodS bs n from fun ⟨n, h⟩ => by
          have := HN.out.inj h.1
          have h2 := h.2
          simp at this
          omega)
        have hgt2 : 1099511627776 < x := by omega
        go_wp2
        go_ret2
        exact ⟨HB.out, .inr ⟨HG.out, rfl⟩⟩
    · have HG := mkH (show ¬ ∃ n, GoodS bs n from fun ⟨n, h⟩ => by
          have := HN.out.inj h.1
          rw [← this] at h1
          exact h1 rfl)
      have hne : ¬ (L.length : Int) = 1 := by omega
      clear hlen hrow ho hb hn h1
      generalize L.length = n at *
      go_wp2
      go_ret2
      exact ⟨HB.out, .inr ⟨HG.out, rfl⟩⟩
  · have HB := mkH hb
    have HG := mkH (show ¬ ∃ n, GoodS bs n from fun ⟨n, h⟩ => hn _ h.1)
    clear hb hn
    go_wp2
    go_ret2
    exact ⟨HB.out, .inr ⟨HG.out, rfl⟩⟩
end Go.Proofs.YtcpmcfagibmboabGreat.Rs

namespace Go.Proofs.YtcpmcfagibmboabGreat.Mr
open Go.RowKit Go.Shelf Pl Gf Gk Ct Cu La Mp Cl Ma Cp
open Cr hiding some_of
open Kt
open At (RowT)
open Rs (GoodS)
set_option linter.unusedVariables false
set_option linter.unusedSimpArgs false
set_option maxRecDepth 20000

/-- Texts are the dump of this machine. -/
def GoodM (l : List (List UInt8)) (s e : Int) (ps : List Pc) (D : List Dd) : Prop := ∃ t0 t1 t2, l = [t0, t1, t2] ∧ GoodS t0 s ∧ Ld.Good t1 e ps ∧ GoodD t2 D
/-- What Revive answers. -/
def RvP (w : World) (l : List (List UInt8)) (x : Ending) (w' : World) : Prop := Below w.heap.size w w' ∧
  ((∃ s e ps D b m, GoodM l s e ps D ∧ ps.length ≤ 400 ∧ x = .returned (.tuple #[.pointer (some ⟨b, 0, none⟩), .int .i64 0]) ∧ Mk w' b m e ps s D ∧ w.heap.size ≤ b ∧ w.heap.size ≤ m) ∨ ((¬ ∃ s e ps D, GoodM l s e ps D) ∧ x = .returned (.tuple #[.pointer none, .int .i64 5])))
theorem not_len {l : List (List UInt8)} (h : l.length ≠ 3) : ¬ ∃ s e ps D, GoodM l s e ps D := by
  rintro ⟨s, e, ps, D, t0, t1, t2, rfl, -⟩
  exact h rfl
theorem not_0 {t0 t1 t2 : List UInt8} (h : ¬ ∃ n, GoodS t0 n) : ¬ ∃ s e ps D, GoodM [t0, t1, t2] s e ps D := by
  rintro ⟨s, e, ps, D, a, b, c, he, h0, -⟩
  cases he
  exact h ⟨s, h0⟩
theorem not_1 {t0 t1 t2 : List UInt8} (h : ¬ ∃ e ps, Ld.Good t1 e ps) : ¬ ∃ s e ps D, GoodM [t0, t1, t2] s e ps D := by
  rintro ⟨s, e, ps, D, a, b, c, he, h0, h1, -⟩
  cases he
  exact h ⟨e, ps, h1⟩
theorem not_2 {t0 t1 t2 : List UInt8} (h : ¬ ∃ D, GoodD t2 D) : ¬ ∃ s e ps D, GoodM [t0, t1, t2] s e ps D := by
  rintro ⟨s, e, ps, D, a, b, c, he, h0, h1, h2⟩
  cases he
  exact h ⟨D, h2⟩

set_option maxHeartbeats 4000000 in
theorem revive_any (w : World) (ao : Option Addr) (cap : Nat) (l : List (List UInt8)) (hr : RowT w ao l) (hl : ∀ t ∈ l, t.length ≤ 1000) (hll : l.length ≤ 1000000) :
    Calls Tryz.prog 9 #[.slice ao l.length cap] w (RvP w l) := by
  by_cases h3 : l.length = 3
  · obtain ⟨t0, t1, t2, rfl⟩ : ∃ t0 t1 t2, l = [t0, t1, t2] := by
      match l, h3 with
      | [a, b, c], _ => exact ⟨a, b, c, rfl⟩
    obtain ⟨b, off, rfl, hc⟩ := hr (by simp)
    have hc0 : w.cell? ⟨b, off, none⟩ = some (.string (S t0)) := hc 0 (by simp)
    have hc1 : w.cell? ⟨b, off + 1, none⟩ = some (.string (S t1)) := hc 1 (by simp)
    have hc2 : w.cell? ⟨b, off + 2, none⟩ = some (.string (S t2)) := hc 2 (by simp)
    have hblt := World.block_lt_of_cell? w _ hc0
    have l0 := hl t0 (by simp)
    have l1 := hl t1 (by simp)
    have l2 := hl t2 (by simp)
    have HC : Hid (∀ W, Below w.heap.size w W → W.cell? ⟨b, off + 1, none⟩ = some (.string (S t1)) ∧ W.cell? ⟨b, off + 2, none⟩ = some (.string (S t2))) := mkH (fun W hb => ⟨(hb.cell (p := ⟨b, off + 1, none⟩) hblt).trans hc1, (hb.cell (p := ⟨b, off + 2, none⟩) hblt).trans hc2⟩)
    have HS := mkH (Rs.readSlots_any w t0 l0)
    have HL := mkH (fun W => Lf.load_any W t1 l1)
    have HCL := mkH (fun W => Rc.readClients_any W t2 l2)
    clear hr hc hl hll h3 hc1 hc2
    simp only [List.length_cons, List.length_nil, Nat.zero_add, Nat.reduceAdd]
    go_enter Tryz.func9, Tryz.ntmps9
    go_wp2_with fail
    refine HS.out.mono ?_
    rintro x w2 ⟨hb2, ⟨s, hs, rfl⟩ | ⟨hs, rfl⟩⟩
    · have HB2 := mkH hb2
      have HGS := mkH hs
      obtain ⟨hc1, hc2⟩ := HC.out w2 hb2
      clear hb2 hs HS hc0
      go_wp2_with fail
      refine (HL.out w2).mono ?_
      rintro x w3 ⟨hb3, ⟨e, ps, a, c, hg, hpl, rfl, hrd⟩ | ⟨hg, rfl⟩⟩
      · have hal : Below w3.heap.size w3 (w3.alloc (.cells #[.int .i64 e, .slice a ps.length c] 51)) := (Below.refl _ w3).alloc (Nat.le_refl _) _
        have HX : Hid (Bx (w3.alloc (.cells #[.int .i64 e, .slice a ps.length c] 51)) w3.heap.size #[.int .i64 e, .slice a ps.length c] 51) := mkH (Bx.new _ _ _)
        have HRD := mkH (hrd.below hal)
        have HB3 := mkH (HB2.out.trans ((hb3.trans (hal.mono hb3.size)).mono HB2.out.size))
        have HGC := mkH hg
        clear hb3 hg hrd hal HL hc1 hc2
        go_upto_region 7 with fail
        generalize w3.heap.size = B6 at *
        generalize w3.alloc (.cells #[.int .i64 e, .slice a ps.length c] 51) = W3 at *
        obtain ⟨-, hc2⟩ := HC.out W3 HB3.out
        go_wp2_with fail
        refine (HCL.out W3).mono ?_
        rintro x w4 ⟨hb4, ⟨D, m, hg, rfl, hm, hmm⟩ | ⟨hg, rfl⟩⟩
        · have hx4 := HX.out.bel hb4
          have c0 : w4.cell? ⟨B6, 0, none⟩ = some (.int .i64 e) := hx4.cell 0 _ rfl
          have c1 : w4.cell? ⟨B6, 1, none⟩ = some (.slice a ps.length c) := hx4.cell 1 _ rfl
          have HRD4 := mkH (HRD.out.below hb4)
          have HB4 := mkH (HB3.out.trans (hb4.mono HB3.out.size))
          have HG : Hid (GoodM [t0, t1, t2] s e ps D) := mkH ⟨t0, t1, t2, rfl, HGS.out, HGC.out, hg⟩
          have HM := mkH hm
          have HMM : Hid (w.heap.size ≤ m) := mkH (Nat.le_trans HB3.out.size hmm)
          clear hx4 hg hm hmm hb4 HCL hc2
          go_wp2
          go_ret2
          have hal : Below w4.heap.size w4 (w4.alloc (.cells #[.int .i64 e, .slice a ps.length c, .int .i64 s, .map (some m)] 59)) := (Below.refl _ w4).alloc (Nat.le_refl _) _
          exact ⟨HB4.out.trans (hal.mono HB4.out.size), .inl ⟨s, e, ps, D, w4.heap.size, m, HG.out, hpl, rfl, ⟨⟨a, c, Bx.new _ _ _, HRD4.out.below hal⟩, HM.out.below hal⟩, HB4.out.size, HMM.out⟩⟩
        · have HB4 := mkH (HB3.out.trans (hb4.mono HB3.out.size))
          have HG := mkH (not_2 (t0 := t0) (t1 := t1) hg)
          clear hb4 hg HCL hc2
          go_wp2
          go_ret2
          exact ⟨HB4.out, .inr ⟨HG.out, rfl⟩⟩
      · have HB3 := mkH (HB2.out.trans (hb3.mono HB2.out.size))
        have HG := mkH (not_1 (t0 := t0) (t2 := t2) hg)
        clear hb3 hg HL hc1 hc2
        go_wp2
        go_ret2
        exact ⟨HB3.out.alloc HB3.out.size _, .inr ⟨HG.out, rfl⟩⟩
    · have HB2 := mkH hb2
      have HG := mkH (not_0 (t1 := t1) (t2 := t2) hs)
      clear hb2 hs HS
      go_wp2
      go_ret2
      exact ⟨HB2.out, .inr ⟨HG.out, rfl⟩⟩
  · have HG := mkH (not_len h3)
    have hne : ¬ (l.length : Int) = 3 := by omega
    clear hr hl h3
    go_enter Tryz.func9, Tryz.ntmps9
    go_wp2
    go_ret2
    exact ⟨Below.refl _ _, .inr ⟨HG.out, rfl⟩⟩
end Go.Proofs.YtcpmcfagibmboabGreat.Mr

namespace Go.Proofs.YtcpmcfagibmboabGreat.Lt
open Go.RowKit Kt Pl Rd Wr Fw
set_option linter.unusedVariables false

theorem info9 : (Tryz.prog.info? 9).map (fun i => (i.zero, i.size, i.bytes)) = some (some (.string ByteArray.empty), 1, 16) := by kernel_rfl

theorem readText_err (bs : List UInt8) : (∃ s k, readText bs = (s, k, 0)) ∨ ∃ er, er ≠ 0 ∧ readText bs = ([], 0, er) := by
  unfold readText
  by_cases h : (readCount bs 4096).2.2 ≠ 0
  · right; exact ⟨_, h, by rw [if_pos h]⟩
  · rw [if_neg h]
    by_cases h2 : bs.length - (readCount bs 4096).2.1 < (readCount bs 4096).1
    · right; exact ⟨4, by omega, by rw [if_pos h2]⟩
    · left; exact ⟨_, _, by rw [if_neg h2]⟩

/-- What a list of texts that was read is handed back as. -/
def IsTexts (base : Nat) (r : List (List UInt8) × Nat × Nat) (w0 : World) (e : Ending) (w' : World) : Prop :=
  ∃ v, e = .returned (.tuple #[v, .int .i64 (r.2.1 : Int), .int .i64 (r.2.2 : Int)]) ∧ w'.ownsRow base 9 1 v r.1.length (T r.1) ∧ Below base w0 w'

theorem own_snoc {w : World} {base e : Nat} {v : Value} {l : List (List UInt8)} {n : List UInt8} (h : w.ownsRow base e 1 v (l.length + 1) (T l ++ [.string (S n)])) : w.ownsRow base e 1 v (l ++ [n]).length (T (l ++ [n])) := by
  rw [List.length_append, T_append]; exact h

theorem rl_ok {bs : List UInt8} {n k p j : Nat} {x : List UInt8} {l : List (List UInt8)} (hk : k < n) (h : readText (bs.drop p) = (x, j, 0)) : rl readText bs (n - k) l p = rl readText bs (n - (k + 1)) (l ++ [x]) (p + j) := by
  rw [show n - k = (n - (k + 1)) + 1 by omega, rl, h]; simp
theorem rl_bad {bs : List UInt8} {n k p er : Nat} {l : List (List UInt8)} (hk : k < n) (h : readText (bs.drop p) = ([], 0, er)) (he : er ≠ 0) : rl readText bs (n - k) l p = ([], 0, er) := by
  rw [show n - k = (n - (k + 1)) + 1 by omega, rl, h]; simp [he]

set_option maxHeartbeats 1000000 in
set_option maxRecDepth 20000 in
theorem readList_any (w : World) (ao : Option Addr) (cap : Nat) (bs : List UInt8) (hr : Row w ao bs) (hlen : bs.length ≤ 1000000000) (hcap : bs.length ≤ cap) (hc63 : cap ≤ 9223372036854775807) :
    Calls Tryz.prog 105 #[.slice ao bs.length cap, .func (Fn.func 89) #[] #[]] w fun e w' => IsTexts w.heap.size (readList readText bs) w e w' := by
  have H := readCount_any w ao cap 1024 bs hr hlen (by omega)
  rcases readCount_cases bs 1024 with ⟨n, j, h1, h2, h3⟩ | ⟨er, h1, h3⟩
  · have hb := readNum_once h1
    have hj := hb.2.1
    clear hb h1
    rw [h3] at H
    have HE : Hid (readList readText bs = rl readText bs n [] j) := mkH (by unfold readList; rw [h3]; simp)
    clear h3
    go_enter Tryz.func105, Tryz.ntmps105
    go_wp2_with fail
    refine H.mono ?_
    unfold ans
    rintro e w1 ⟨rfl, rfl⟩
    clear H
    go_wp2
    go_loopw [8, 10, 24] (fun sz v ct wr => ∃ (k p : Nat) (l : List (List UInt8)), k ≤ n ∧ p ≤ bs.length ∧ ct = .int .i64 k ∧ sz = .int .i64 p ∧ l.length ≤ k ∧ wr.ownsRow w1.heap.size 9 1 v l.length (T l) ∧ Hid (rl readText bs (n - k) l p = readList readText bs) ∧ Below w1.heap.size w1 wr)
      (fun _ _ ct _ => n - (intOf ct).toNat)
    case atStart => exact ⟨0, j, [], by omega, hj, rfl, rfl, by simp, World.ownsRow_nil _ _ _ _, HE.out.symm, Below.refl _ _⟩
    case round =>
      obtain ⟨k, p, l, hk, hp, rfl, rfl, hl, hown, hrl, hbel⟩ := hrel
      have hsz := hbel.size
      by_cases hlt : k < n
      · have hrd := Row_drop (hr.below hbel) (k := p) hcap
        obtain ⟨aq, haq⟩ : ∃ aq, (if cap = p then ao else Option.map (fun x => x.add p) ao) = aq := ⟨_, rfl⟩
        rw [haq] at hrd
        have HC := readText_any wr aq (cap - p) (bs.drop p) hrd (by rw [List.length_drop]; omega) (by rw [List.length_drop]; omega) (by omega)
        rw [List.length_drop] at HC
        clear hrd
        rcases readText_err (bs.drop p) with ⟨x, q, h⟩ | ⟨er, he, h⟩
        · have hb := readText_once h
          have hq := hb.2.1
          rw [List.length_drop] at hq
          have HR : Hid (rl readText bs (n - (k + 1)) (l ++ [x]) (p + q) = readList readText bs) := by rw [← rl_ok hlt h]; exact hrl
          rw [h] at HC
          clear hb hrl h
          go_wp2_with fail
          refine HC.mono ?_
          unfold ansT
          rintro e w2 ⟨rfl, rfl⟩
          clear HC
          go_wp2_with (at_builtin; refine (wpList_append_own_src _ rfl (.tmp 38) (.tmp 40) 31 31 rfl w1.heap.size 9 (.string ByteArray.empty) 1 16 Tryz.underlying31 info9 rfl (by decide) _ l.length (T l) rfl (hown.alloc _) _ 1 [.string (S x)] rfl (src_val Tryz.underlying31 _ _ rfl) ?h63 ?hby ?hbs ?_))
          case h63 => unfold maxLen; omega
          case hby => omega
          case hbs => simp; omega
          intro v3 w3 hown3 hgrow3
          have hb3 := below_own (hown.alloc _) hgrow3 (hbel.alloc hsz _) (by simp; omega)
          have hown4 := own_snoc hown3
          clear hown3 hgrow3 hown hbel
          go_wp2
          go_roundw
          case rel => exact ⟨k + 1, p + q, l ++ [x], by omega, by omega, by go_num, by go_num, by simp; omega, hown4, HR, hb3⟩
          case measure => simp [intOf]; omega
        · have HR : Hid (readList readText bs = ([], 0, er)) := by rw [← hrl.out]; exact rl_bad hlt h he
          have te : ((er : Int) == 0) = false := by simp; omega
          rw [h] at HC
          clear h hrl
          go_wp2_with fail
          refine HC.mono ?_
          unfold ansT
          rintro e w2 ⟨rfl, rfl⟩
          clear HC
          go_wp2
          go_ret3
          unfold IsTexts
          rw [HR.out]
          exact ⟨_, rfl, World.ownsRow_nil _ _ _ _, hbel⟩
      · have HR : Hid (readList readText bs = (l, p, 0)) := by rw [← hrl.out, show n - k = 0 by omega]; rfl
        clear hrl
        go_wp2
        go_ret3
        unfold IsTexts
        rw [HR.out]
        exact ⟨_, rfl, hown, hbel⟩
  · have HE : Hid (readList readText bs = ([], 0, er)) := mkH (by unfold readList; rw [h3]; rcases h1 with rfl | rfl | rfl <;> simp)
    rw [h3] at H
    clear h3 hr
    rcases h1 with rfl | rfl | rfl
    all_goals
      go_enter Tryz.func105, Tryz.ntmps105
      go_wp2_with fail
      refine H.mono ?_
      unfold ans
      rintro e w1 ⟨rfl, rfl⟩
      clear H
      go_wp2
      go_ret3
      unfold IsTexts
      rw [HE.out]
      exact ⟨_, rfl, World.ownsRow_nil _ _ _ _, Below.refl _ _⟩

set_option maxHeartbeats 400000 in
set_option maxRecDepth 20000 in
theorem readTexts_any (w : World) (ao : Option Addr) (cap : Nat) (bs : List UInt8) (hr : Row w ao bs) (hlen : bs.length ≤ 1000000000) (hcap : bs.length ≤ cap) (hc63 : cap ≤ 9223372036854775807) :
    Calls Tryz.prog 91 #[.slice ao bs.length cap] w fun e w' => IsTexts w.heap.size (readList readText bs) w e w' := by
  go_enter Tryz.func91, Tryz.ntmps91
  go_wp2_with fail
  refine (readList_any w ao cap bs hr hlen hcap hc63).mono ?_
  rintro e w1 ⟨v, rfl, hown, hb⟩
  go_wp2
  go_ret3
  exact ⟨v, rfl, hown, hb⟩
end Go.Proofs.YtcpmcfagibmboabGreat.Lt

namespace Go.Proofs.YtcpmcfagibmboabGreat.Wk
open Go.RowKit Kt Pl Wi Go.Sort
open At (RowT)
set_option linter.unusedVariables false

/-- What a call leaves that only lays blocks of its own, and may draw. -/
structure Gr (w w' : World) : Prop where
  below : Below w.heap.size w w'
  drawn : w.drawn ≤ w'.drawn
theorem Gr.refl (w : World) : Gr w w := ⟨Below.refl _ _, Nat.le_refl _⟩
theorem Gr.trans {a b c : World} (h : Gr a b) (k : Gr b c) : Gr a c := ⟨h.below.trans (k.below.mono h.below.size), Nat.le_trans h.drawn k.drawn⟩
theorem Gr.alloc {a w : World} (h : Gr a w) (o : Obj) : Gr a (w.alloc o) := ⟨h.below.alloc h.below.size o, h.drawn⟩
theorem Gr.drew {a w : World} (h : Gr a w) : Gr a w.drew := ⟨h.below.drew, Nat.le_succ_of_le h.drawn⟩
theorem Gr.drewN {a w : World} (h : Gr a w) (q : Nat) : Gr a (w.drewN q) := h.trans ⟨⟨rfl, rfl, rfl, Nat.le_refl _, fun _ _ => rfl⟩, Nat.le_add_right _ _⟩
theorem Gr.setCell {a w : World} (h : Gr a w) {p : Addr} (hp : a.heap.size ≤ p.block) (u : Value) : Gr a (w.setCell p u) := ⟨h.below.setCell hp u, h.drawn⟩
theorem Gr.grown {w w' : World} (h : Gr w w') : ∃ q os, w' = Go.Sort.grow (w.drewN q) os := by
  refine ⟨w'.drawn - w.drawn, w'.heap.extract w.heap.size w'.heap.size, ?_⟩
  obtain ⟨hp, tp, dr, os, out⟩ := w'
  have e1 := h.below.os; have e2 := h.below.tape; have e3 := h.below.output; have e4 := h.drawn; have e5 := h.below.size; have e6 := h.below.block
  simp only at e1 e2 e3 e4 e5 e6 ⊢
  subst e1 e2 e3
  simp only [Go.Sort.grow, World.drewN]
  congr 1
  · apply Array.ext'
    rw [Array.toList_append, Array.toList_extract]
    have : w.heap.toList = hp.toList.take w.heap.size := by
      apply List.ext_getElem?
      intro i
      rw [List.getElem?_take, Array.getElem?_toList]
      by_cases hi : i < w.heap.size
      · rw [if_pos hi, Array.getElem?_toList, e6 i hi]
      · rw [if_neg hi, Array.getElem?_eq_none (by omega)]
    rw [this, List.extract_eq_take_drop]
    rw [List.take_of_length_le (l := List.drop _ _) (by simp), List.take_append_drop]
  · omega
theorem gr_grow (w : World) (n : Nat) (os : Array Obj) : Gr w (grow (w.drewN n) os) := by
  refine ⟨⟨rfl, rfl, rfl, by simp [grow, World.drewN], fun k hk => ?_⟩, Nat.le_add_right _ _⟩
  show (w.heap ++ os)[k]? = _
  rw [Array.getElem?_append_left hk]
theorem quietly {P : Program} {f : FuncId} {args : Array Value} {w : World} {n : Nat} {os : Array Obj} {v : Value} (h : Calls P f args (grow (w.drewN n) os) fun e w' => e = .returned v ∧ Gr (grow (w.drewN n) os) w') :
    Calls P f args (grow (w.drewN n) os) fun e w'' => e = .returned v ∧ ∃ p : GrownBy, w'' = grow (w.drewN p.n) p.os :=
  Calls.grown_of (h.mono fun _ _ ⟨he, hg⟩ => ⟨he, hg.grown⟩)

/-- A block that holds these cells. -/
def Bx (w : World) (b : Nat) (cs : Array Value) (t : TypeId) : Prop := w.heap[b]? = some (.cells cs t (0, 0))
theorem Bx.new (w : World) (cs : Array Value) (t : TypeId) : Bx (w.alloc (.cells cs t)) w.heap.size cs t := heap_alloc_new _ _
theorem Bx.lt {w : World} {b : Nat} {cs : Array Value} {t : TypeId} (h : Bx w b cs t) : b < w.heap.size := by
  rcases Nat.lt_or_ge b w.heap.size with h1 | h1
  · exact h1
  · unfold Bx at h; rw [Array.getElem?_eq_none h1] at h; cases h
theorem Bx.below {w w' : World} {b B : Nat} {cs : Array Value} {t : TypeId} (h : Bx w b cs t) (hg : Below B w w') (hb : b < B) : Bx w' b cs t := by
  unfold Bx; rw [hg.block b hb]; exact h
theorem Bx.gr {w w' : World} {b : Nat} {cs : Array Value} {t : TypeId} (h : Bx w b cs t) (hg : Gr w w') : Bx w' b cs t := h.below hg.below h.lt
theorem Bx.drew {w : World} {b : Nat} {cs : Array Value} {t : TypeId} (h : Bx w b cs t) : Bx w.drew b cs t := h
theorem Bx.alloc {w : World} {b : Nat} {cs : Array Value} {t : TypeId} (h : Bx w b cs t) (o : Obj) : Bx (w.alloc o) b cs t := h.gr ((Gr.refl w).alloc o)
theorem Bx.cell {w : World} {b : Nat} {cs : Array Value} {t : TypeId} (h : Bx w b cs t) (k : Nat) : w.cell? ⟨b, k, none⟩ = cs[k]? := by
  simp only [World.cell?]; rw [show w.heap[b]? = _ from h]; rfl
theorem Bx.grown {w : World} {b : Nat} {cs : Array Value} {t : TypeId} (h : Bx w b cs t) (k n : Nat) (os : Array Obj) : (grow (w.drewN n) os).cell? ⟨b, k, none⟩ = cs[k]? := (h.gr (gr_grow w n os)).cell k

theorem run_isAgg {P : Program} {t : TypeId} {d : TypeDesc} (hu : P.underlying t = some d) (hd : (match d with | .struct _ | .array _ _ => true | _ => false) = true) (w : World) : (isAgg t).run P w = .ok true w := by
  unfold isAgg
  rw [Sem.run_bind, run_underlying hu w]
  cases d <;> simp_all
theorem run_load_agg {P : Program} {w : World} (ty : TypeId) (d : TypeDesc) (hu : P.underlying ty = some d) (hd : (match d with | .struct _ | .array _ _ => true | _ => false) = true) (b off : Nat) (cs : List Value) (hi : (P.info? ty).map (·.size) = some cs.length)
    (hc : ∀ j v, cs[j]? = some v → w.cell? ⟨b, off + j, none⟩ = some v) : (loadVar ty ⟨b, off, none⟩).run P w = .ok (.agg cs.toArray) w := by
  have hl := run_loadCells_list (P := P) w ⟨b, off, none⟩ cs (fun j v hv => by rw [Addr.add_lit]; exact hc j v hv)
  have hag := run_isAgg (P := P) hu hd w
  cases hq : P.info? ty with
  | none => simp [hq] at hi
  | some i =>
    have hs : i.size = cs.length := by simpa [hq] using hi
    simp [loadVar, Sem.run_bind, hag, sizeOf, typeInfo, hq, hs, hl]
/-- A block that is loaded whole. -/
theorem load_bx {P : Program} {w : World} {b : Nat} {cs : Array Value} {t : TypeId} (h : Bx w b cs t) {ty : TypeId} {d : TypeDesc} (hu : P.underlying ty = some d) (hd : (match d with | .struct _ | .array _ _ => true | _ => false) = true) (hi : (P.info? ty).map (·.size) = some cs.size) :
    (loadVar ty ⟨b, 0, none⟩).run P w = .ok (.agg cs) w := by
  have := run_load_agg (P := P) (w := w) ty d hu hd b 0 cs.toList (by simpa using hi) (fun j v hv => by rw [Nat.zero_add, h.cell]; simpa using hv)
  simpa using this

/-- A slice of numbers, as it is read. -/
def RowI (w : World) (ao : Option Addr) (l : List Int) : Prop :=
  0 < l.length → ∃ b off, ao = some ⟨b, off, none⟩ ∧ ∀ i, i < l.length → w.cell? ⟨b, off + i, none⟩ = some (.int .i64 (l.getD i 0))
def I (l : List Int) : List Value := l.map fun n => Value.int .i64 n
theorem cell_new (w : World) (cs : Array Value) (T : TypeId) (i : Nat) : (w.alloc (.cells cs T)).cell? ⟨w.heap.size, i, none⟩ = cs[i]? := (Bx.new w cs T).cell i
theorem RowI.new (w : World) (l : List Int) (T : TypeId) : RowI (w.alloc (.cells (I l).toArray T)) (some ⟨w.heap.size, 0, none⟩) l := by
  intro _
  refine ⟨_, _, rfl, fun i hi => ?_⟩
  rw [cell_new, Nat.zero_add]
  simp [I, List.getD, List.getElem?_eq_getElem hi]
theorem RowI.at (w : World) (l : List Int) (T : TypeId) (b : Nat) (hb : b = w.heap.size) : RowI (w.alloc (.cells (I l).toArray T)) (some ⟨b, 0, none⟩) l := hb ▸ RowI.new w l T
theorem RowI.below {w w' : World} {ao : Option Addr} {l : List Int} (h : RowI w ao l) (hb : Below w.heap.size w w') : RowI w' ao l := by
  intro hl
  obtain ⟨b, off, e, hc⟩ := h hl
  refine ⟨b, off, e, fun i hi => ?_⟩
  have h1 := hc i hi
  rw [hb.cell (p := ⟨b, off + i, none⟩) (World.block_lt_of_cell? w _ h1)]
  exact h1
theorem RowI.gr {w w' : World} {ao : Option Addr} {l : List Int} (h : RowI w ao l) (hb : Gr w w') : RowI w' ao l := h.below hb.below
theorem RowT.new (w : World) (l : List Bs) (T' : TypeId) : RowT (w.alloc (.cells (T l).toArray T')) (some ⟨w.heap.size, 0, none⟩) l := by
  intro _
  refine ⟨_, _, rfl, fun i hi => ?_⟩
  rw [cell_new, Nat.zero_add]
  simp [T, List.getD, List.getElem?_eq_getElem hi]
theorem RowT.at (w : World) (l : List Bs) (T' : TypeId) (b : Nat) (hb : b = w.heap.size) : RowT (w.alloc (.cells (T l).toArray T')) (some ⟨b, 0, none⟩) l := hb ▸ RowT.new w l T'
theorem RowT.gr {w w' : World} {ao : Option Addr} {l : List Bs} (h : RowT w ao l) (hb : Gr w w') : RowT w' ao l := h.below hb.below

theorem ret_bool {a b : Bool} (h : a = b) : Ending.returned (.bool a) = .returned (.bool b) := by rw [h]
theorem all_take {α : Type} (p : α → Bool) (l : List α) (k : Nat) (x : α) (hx : l[k]? = some x) : (l.take (k + 1)).all p = ((l.take k).all p && p x) := by
  rw [List.take_add_one, hx, List.all_append]; simp
theorem all_false {α : Type} {p : α → Bool} {l : List α} {k : Nat} {x : α} (hx : l[k]? = some x) (h : p x = false) : l.all p = false := by
  rw [Bool.eq_false_iff, ne_eq, List.all_eq_true]
  intro hh
  rw [hh x (List.mem_of_getElem? hx)] at h
  cases h
theorem getD_of {α : Type} {l : List α} {k : Nat} {x d : α} (hx : l[k]? = some x) : l.getD k d = x := by simp [List.getD, hx]

/- A receipt's and a command's cells. -/
def Rv (r : Rcp) : Array Value := #[.int .i64 r.q, .string (S r.g), .int .i64 r.s, .int .i64 r.c]
def Cv (c : Cm) (d : Value) : Array Value := #[.int .i64 c.kind, .int .i64 c.client, .int .i64 c.num, .int .i64 c.time, .int .i64 c.queue,
  .string (S c.group), .string (S c.body), .string (S c.token), .string (S c.attempt), .int .i64 c.max, .int .i64 c.secs,
  .int .i64 c.rc.q, .string (S c.rc.g), .int .i64 c.rc.s, .int .i64 c.rc.c, .int .i64 c.lo, .int .i64 c.hi, .int .i64 c.to, d]
theorem S_len (s : Bs) : (S s).size = s.length := rfl
end Go.Proofs.YtcpmcfagibmboabGreat.Wk

namespace Go.Proofs.YtcpmcfagibmboabGreat.Ww
open Go.RowKit Kt Pl Wi Wk Wr
open At (RowT okT)
set_option linter.unusedVariables false
set_option maxRecDepth 20000

/-- What lies in no block of bytes stays. -/
structure U8 (w w' : World) : Prop where
  os : w'.os = w.os
  tape : w'.tape = w.tape
  output : w'.output = w.output
  size : w.heap.size ≤ w'.heap.size
  block : ∀ k, k < w.heap.size → (∀ cs fz, w.heap[k]? ≠ some (.cells cs 5 fz)) → w'.heap[k]? = w.heap[k]?
theorem U8.refl (w : World) : U8 w w := ⟨rfl, rfl, rfl, Nat.le_refl _, fun _ _ _ => rfl⟩
theorem U8.trans {a b c : World} (h : U8 a b) (k : U8 b c) : U8 a c :=
  ⟨k.os.trans h.os, k.tape.trans h.tape, k.output.trans h.output, Nat.le_trans h.size k.size, fun i hi hn => (k.block i (Nat.lt_of_lt_of_le hi h.size) (by rw [h.block i hi hn]; exact hn)).trans (h.block i hi hn)⟩
theorem U8.ofBelow {w w' : World} (h : Below w.heap.size w w') : U8 w w' := ⟨h.os, h.tape, h.output, h.size, fun k hk _ => h.block k hk⟩
theorem U8.ofGr {w w' : World} (h : Gr w w') : U8 w w' := U8.ofBelow h.below
theorem U8.alloc {a w : World} (h : U8 a w) (o : Obj) : U8 a (w.alloc o) := h.trans (U8.ofGr ((Gr.refl w).alloc o))
theorem U8.drew {a w : World} (h : U8 a w) : U8 a w.drew := h.trans (U8.ofGr ((Gr.refl w).drew))
theorem U8.grown {w w' : World} {base n : Nat} {v : Value} {xs : List Value} (h : w.ownsRow base 5 1 v n xs) (hg : w.grownBy w' v.ownBlock) : U8 w w' := by
  refine ⟨hg.os, hg.tape, hg.output, hg.size, fun k hk hn => hg.block k hk (fun e => ?_)⟩
  rcases h.2 with ⟨e1, e2⟩ | ⟨g, c, cur, e1, _, hb, _⟩
  · rw [e1] at e; simp [Value.ownBlock] at e
  · rw [e1] at e
    have : k = g := by simpa [Value.ownBlock] using e
    subst this
    exact hn _ _ hb
theorem Bx.u8 {w w' : World} {b : Nat} {cs : Array Value} {t : TypeId} (h : Bx w b cs t) (ht : t ≠ 5) (hu : U8 w w') : Bx w' b cs t := by
  unfold Bx
  rw [hu.block b h.lt (fun cs' fz e => ?_)]
  · exact h
  · rw [show w.heap[b]? = _ from h] at e
    injection e with e
    injection e with _ e2
    exact ht e2

/-- A writer: it owns these bytes, from a base on. -/
def Wt (w : World) (base : Nat) (v : Value) (bs : Bs) : Prop := w.ownsRow base 5 1 v bs.length (U bs)
theorem Wt.gr {w w' : World} {base : Nat} {v : Value} {bs : Bs} (h : Wt w base v bs) (hg : Gr w w') : Wt w' base v bs := by
  refine ⟨h.1, ?_⟩
  rcases h.2 with h1 | ⟨g, c, cur, e1, h2, h3, h4⟩
  · exact .inl h1
  · exact .inr ⟨g, c, cur, e1, h2, (hg.below.block g (Array.getElem?_eq_some_iff.1 h3).1).trans h3, h4⟩
theorem Wt.below {w w' : World} {base : Nat} {v : Value} {bs : Bs} (h : Wt w base v bs) (hg : Below w.heap.size w w') : Wt w' base v bs := by
  refine ⟨h.1, ?_⟩
  rcases h.2 with h1 | ⟨g, c, cur, e1, h2, h3, h4⟩
  · exact .inl h1
  · exact .inr ⟨g, c, cur, e1, h2, (hg.block g (Array.getElem?_eq_some_iff.1 h3).1).trans h3, h4⟩
theorem below_down {w w' : World} {base : Nat} (h : Below w.heap.size w w') (hb : base ≤ w.heap.size) : Below base w w' := ⟨h.os, h.tape, h.output, h.size, fun j hj => h.block j (by omega)⟩
theorem Wt.new (w : World) : Wt (w.alloc (.cells #[] 5)) w.heap.size (.slice (some ⟨w.heap.size, 0, none⟩) 0 0) [] :=
  World.ownsRow_made (e := 5) (size := 1) w #[] 0 (Nat.le_refl _) (Nat.zero_le _) rfl
theorem Wt.mono {w : World} {base base' : Nat} {v : Value} {bs : Bs} (h : Wt w base' v bs) (hb : base ≤ base') : Wt w base v bs := by
  refine ⟨h.1, ?_⟩
  rcases h.2 with h1 | ⟨g, c, cur, e1, h2, h3⟩
  · exact .inl h1
  · exact .inr ⟨g, c, cur, e1, Nat.le_trans hb h2, h3⟩
theorem Wt.form {w : World} {base : Nat} {v : Value} {bs : Bs} (h : Wt w base v bs) : ∃ ao cap, v = .slice ao bs.length cap := own_form h

/-- What a call of the writer leaves. -/
def Wrote (w : World) (base : Nat) (bs : Bs) (e : Ending) (w' : World) : Prop := ∃ v', e = .returned v' ∧ Wt w' base v' bs ∧ Below base w w' ∧ U8 w w'

theorem info5 : (Tryz.prog.info? 5).map (fun i => (i.zero, i.size, i.bytes)) = some (some (.int .u8 0), 1, 1) := by kernel_rfl

set_option maxHeartbeats 400000 in
theorem add_any (w : World) (base : Nat) (v : Value) (bs part : Bs) (ao : Option Addr) (cap : Nat) (e0 : Value) (hw : Wt w base v bs) (hb : base ≤ w.heap.size) (hr : Row w ao part) (hl : bs.length + part.length ≤ 3000000000) :
    Calls Tryz.prog 37 #[v, .slice ao part.length cap, e0] w fun e w' => Wrote w base (bs ++ part) e w' := by
  unfold Wt at hw
  go_enter Tryz.func37, Tryz.ntmps37
  go_wp2_with (at_builtin; refine wpList_append_own_src _ rfl (.tmp 7) (.tmp 8) 61 34 rfl base 5 (.int .u8 0) 1 1 Tryz.underlying61 info5 rfl (by decide) _ bs.length (U bs) rfl hw _ part.length (U part) rfl (Row.src Tryz.underlying34 hr cap) (by unfold maxLen; omega) (by omega) hb ?_; intro v2 w2 hown2 hgrow2)
  go_ret
  refine ⟨v2, rfl, ?_, below_own hw hgrow2 (Below.refl _ _) hb, U8.grown hw hgrow2⟩
  unfold Wt
  rw [List.length_append, U_append]
  exact hown2

theorem flat_take (l : List Int) (k : Nat) (x : Int) (hx : l[k]? = some x) : (l.take (k + 1)).flatMap encN = (l.take k).flatMap encN ++ encN x := by
  rw [List.take_add_one, hx, List.flatMap_append]; simp
theorem flat_len (l : List Int) (hok : ∀ x ∈ l, 0 ≤ x ∧ x ≤ 4611686018427387904) : (l.flatMap encN).length ≤ 9 * l.length := by
  induction l with
  | nil => simp
  | cons x l ih =>
    have h1 := ih (fun y hy => hok y (by simp [hy]))
    have h2 := hok x (by simp)
    have h3 : (encN x).length ≤ 9 := enc_len9 (by omega)
    simp only [List.flatMap_cons, List.length_append, List.length_cons]
    omega

set_option maxHeartbeats 2000000 in
theorem nums_any (w : World) (base : Nat) (v : Value) (bs : Bs) (hw : Wt w base v bs) (hb : base ≤ w.heap.size) (hn : bs.length ≤ 1000000000) (b : Nat) (cap : Nat) (l : List Int) (hB : Bx w b (I l).toArray 3) (hl : l.length ≤ 1000) (hok : ∀ x ∈ l, 0 ≤ x ∧ x ≤ 4611686018427387904) :
    Calls Tryz.prog 14 #[v, .slice (some ⟨b, 0, none⟩) l.length cap] w fun e w' => Wrote w base (bs ++ l.flatMap encN) e w' := by
  have HB := mkH hB
  have HO := mkH hok
  have HW := mkH hw
  clear hB hok hw
  go_enter Tryz.func14, Tryz.ntmps14
  go_wp2
  go_loopw [0, 6, 9] (fun v1 _ i wr => ∃ k : Nat, k ≤ l.length ∧ i = .int .i64 k ∧ Hid (Wt wr base v1 (bs ++ (l.take k).flatMap encN)) ∧ Hid (Below base w wr) ∧ Hid (U8 w wr)) (fun _ _ i _ => l.length - (intOf i).toNat)
  case atStart => exact ⟨0, Nat.zero_le _, rfl, mkH (by simpa using HW.out), mkH (Below.refl _ _), mkH (U8.refl _)⟩
  case round =>
    obtain ⟨k, hk, rfl, HW1, HBe, HU⟩ := hrel
    have hsz := HBe.out.size
    have hlen : ((l.take k).flatMap encN).length ≤ 9 * 1000 := by
      have h1 := flat_len (l.take k) (fun x hx => HO.out x (List.mem_of_mem_take hx))
      have h2 : (l.take k).length ≤ 1000 := by rw [List.length_take]; omega
      omega
    by_cases hlt : k < l.length
    · obtain ⟨x, hx⟩ : ∃ x, l[k]? = some x := ⟨_, List.getElem?_eq_getElem hlt⟩
      have hxo := HO.out x (List.mem_of_getElem? hx)
      have hB1 := Ww.Bx.u8 HB.out (by decide) HU.out
      have hck : wr.cell? ⟨b, k, none⟩ = some (.int .i64 x) := by rw [hB1.cell]; simp [Wk.I, hx]
      obtain ⟨m, rfl⟩ : ∃ m : Nat, x = (m : Int) := ⟨x.toNat, by omega⟩
      have HX := mkH hx
      have hm : m ≤ 4611686018427387904 := by omega
      have HM := mkH hm
      clear hx hB1 hm hxo
      go_wp2_with fail
      refine (num_ok wr none 0 m [] (Row.nil _ _) (by simp) HM.out).mono ?_
      rintro e w1 ⟨v2, rfl, hown2, hb2⟩
      rw [List.nil_append] at hown2
      have hl0 : ([] : List UInt8).length + (enc m).length = (enc m).length := by simp
      rw [hl0] at hown2
      obtain ⟨ao2, cap2, rfl⟩ := own_form hown2
      obtain ⟨-, -, hr2⟩ := Row.own hown2
      have h9 := enc_len9 HM.out
      have hgr : U8 wr w1 := U8.ofBelow hb2
      have hW1 : Wt w1 base u0 (bs ++ (l.take k).flatMap encN) := by
        refine ⟨HW1.out.1, ?_⟩
        rcases HW1.out.2 with h1 | ⟨g, c, cur, e1, h2, h3, h4⟩
        · exact .inl h1
        · exact .inr ⟨g, c, cur, e1, h2, (hb2.block g (Array.getElem?_eq_some_iff.1 h3).1).trans h3, h4⟩
      have hsz2 := hb2.size
      have HA := add_any w1 base u0 (bs ++ (l.take k).flatMap encN) (enc m) ao2 cap2 (.int .i64 0) hW1 (by omega) hr2 (by rw [List.length_append]; omega)
      have HF : Hid (bs ++ (l.take (k + 1)).flatMap encN = bs ++ (l.take k).flatMap encN ++ enc m) := mkH (by rw [flat_take _ _ _ HX.out, List.append_assoc]; rfl)
      have HB2 := mkH (HBe.out.trans (hb2.mono hsz |> fun h => (⟨h.os, h.tape, h.output, h.size, fun j hj => hb2.block j (by omega)⟩ : Below base wr w1)))
      have HU2 := mkH (HU.out.trans hgr)
      clear hown2 hr2 hW1 hb2 hgr HX HM HW1 HBe HU hck
      go_wp2_with fail
      refine HA.mono ?_
      rintro e w3 ⟨v3, rfl, hw3, hb3, hu3⟩
      rw [← HF.out] at hw3
      have HW3 := mkH hw3
      have HB3 := mkH (HB2.out.trans hb3)
      have HU3 := mkH (HU2.out.trans hu3)
      clear HA hw3 hb3 hu3 HB2 HU2 HF
      go_wp2
      go_roundw
      case rel => exact ⟨k + 1, by omega, by go_num, HW3, HB3, HU3⟩
      case measure => simp [intOf]; omega
    · have hW := HW1.out
      rw [List.take_of_length_le (by omega)] at hW
      have HW2 := mkH hW
      clear hW HW1
      go_wp2
      go_ret
      exact ⟨_, rfl, HW2.out, HBe.out, HU.out⟩
theorem flatT_take (l : List Bs) (k : Nat) (x : Bs) (hx : l[k]? = some x) : (l.take (k + 1)).flatMap encText = (l.take k).flatMap encText ++ encText x := by
  rw [List.take_add_one, hx, List.flatMap_append]; simp
theorem flatT_len (l : List Bs) (hok : ∀ x ∈ l, x.length ≤ 4096) : (l.flatMap encText).length ≤ 4105 * l.length := by
  induction l with
  | nil => simp
  | cons x l ih =>
    have h1 := ih (fun y hy => hok y (by simp [hy]))
    have h2 := hok x (by simp)
    have h3 : (encText x).length ≤ 4105 := by unfold encText; rw [List.length_append]; have := enc_len9 (n := x.length) (by omega); omega
    simp only [List.flatMap_cons, List.length_append, List.length_cons]
    omega

set_option maxHeartbeats 2000000 in
theorem texts_any (w : World) (base : Nat) (v : Value) (bs : Bs) (hw : Wt w base v bs) (hb : base ≤ w.heap.size) (hn : bs.length ≤ 1000000000) (b : Nat) (cap : Nat) (l : List Bs) (hB : Bx w b (T l).toArray 9) (hl : l.length ≤ 1000) (hok : ∀ x ∈ l, x.length ≤ 4096) :
    Calls Tryz.prog 15 #[v, .slice (some ⟨b, 0, none⟩) l.length cap] w fun e w' => Wrote w base (bs ++ l.flatMap encText) e w' := by
  have HB := mkH hB
  have HO := mkH hok
  have HW := mkH hw
  clear hB hok hw
  go_enter Tryz.func15, Tryz.ntmps15
  go_wp2
  go_loopw [0, 6, 9] (fun v1 _ i wr => ∃ k : Nat, k ≤ l.length ∧ i = .int .i64 k ∧ Hid (Wt wr base v1 (bs ++ (l.take k).flatMap encText)) ∧ Hid (Below base w wr) ∧ Hid (U8 w wr)) (fun _ _ i _ => l.length - (intOf i).toNat)
  case atStart => exact ⟨0, Nat.zero_le _, rfl, mkH (by simpa using HW.out), mkH (Below.refl _ _), mkH (U8.refl _)⟩
  case round =>
    obtain ⟨k, hk, rfl, HW1, HBe, HU⟩ := hrel
    have hsz := HBe.out.size
    have hlen : ((l.take k).flatMap encText).length ≤ 4105 * 1000 := by
      have h1 := flatT_len (l.take k) (fun x hx => HO.out x (List.mem_of_mem_take hx))
      have h2 : (l.take k).length ≤ 1000 := by rw [List.length_take]; omega
      omega
    by_cases hlt : k < l.length
    · obtain ⟨x, hx⟩ : ∃ x, l[k]? = some x := ⟨_, List.getElem?_eq_getElem hlt⟩
      have hxo := HO.out x (List.mem_of_getElem? hx)
      have hB1 := Ww.Bx.u8 HB.out (by decide) HU.out
      have hck : wr.cell? ⟨b, k, none⟩ = some (.string (S x)) := by rw [hB1.cell]; simp [T, hx]
      have HX := mkH hx
      have HM := mkH hxo
      clear hx hB1 hxo
      go_wp2_with fail
      refine (text_ok wr none 0 (S x) [] (Row.nil _ _) (by simp) HM.out).mono ?_
      rintro e w1 ⟨v2, rfl, hown2, hb2⟩
      rw [List.nil_append] at hown2
      change w1.ownsRow wr.heap.size 5 1 v2 (([] : List UInt8).length + (encText x).length) (U (encText x)) at hown2
      have hl0 : ([] : List UInt8).length + (encText x).length = (encText x).length := by simp
      rw [hl0] at hown2
      obtain ⟨ao2, cap2, rfl⟩ := own_form hown2
      obtain ⟨-, -, hr2⟩ := Row.own hown2
      have h9 : (encText x).length ≤ 4105 := by unfold encText; rw [List.length_append]; have := enc_len9 (n := x.length) (by have := HM.out; omega); have := HM.out; omega
      have hgr : U8 wr w1 := U8.ofBelow hb2
      have hW1 : Wt w1 base u0 (bs ++ (l.take k).flatMap encText) := by
        refine ⟨HW1.out.1, ?_⟩
        rcases HW1.out.2 with h1 | ⟨g, c, cur, e1, h2, h3, h4⟩
        · exact .inl h1
        · exact .inr ⟨g, c, cur, e1, h2, (hb2.block g (Array.getElem?_eq_some_iff.1 h3).1).trans h3, h4⟩
      have hsz2 := hb2.size
      have HA := add_any w1 base u0 (bs ++ (l.take k).flatMap encText) (encText x) ao2 cap2 (.int .i64 0) hW1 (by omega) hr2 (by rw [List.length_append]; omega)
      have HF : Hid (bs ++ (l.take (k + 1)).flatMap encText = bs ++ (l.take k).flatMap encText ++ encText x) := mkH (by rw [flatT_take _ _ _ HX.out, List.append_assoc])
      have HB2 := mkH (HBe.out.trans (hb2.mono hsz |> fun h => (⟨h.os, h.tape, h.output, h.size, fun j hj => hb2.block j (by omega)⟩ : Below base wr w1)))
      have HU2 := mkH (HU.out.trans hgr)
      clear hown2 hr2 hW1 hb2 hgr HX HM HW1 HBe HU hck
      go_wp2_with fail
      refine HA.mono ?_
      rintro e w3 ⟨v3, rfl, hw3, hb3, hu3⟩
      rw [← HF.out] at hw3
      have HW3 := mkH hw3
      have HB3 := mkH (HB2.out.trans hb3)
      have HU3 := mkH (HU2.out.trans hu3)
      clear HA hw3 hb3 hu3 HB2 HU2 HF
      go_wp2
      go_roundw
      case rel => exact ⟨k + 1, by omega, by go_num, HW3, HB3, HU3⟩
      case measure => simp [intOf]; omega
    · have hW := HW1.out
      rw [List.take_of_length_le (by omega)] at hW
      have HW2 := mkH hW
      clear hW HW1
      go_wp2
      go_ret
      exact ⟨_, rfl, HW2.out, HBe.out, HU.out⟩

set_option maxHeartbeats 400000 in
theorem data_any (w : World) (base : Nat) (v : Value) (bs : Bs) (hw : Wt w base v bs) (hb : base ≤ w.heap.size) (hn : bs.length ≤ 1000000000) (ao : Option Addr) (cap : Nat) (l : List Bs) (hr : RowT w ao l) (hl : l.length ≤ 1024) (hok : ∀ x ∈ l, x.length ≤ 4096) :
    Calls Tryz.prog 17 #[v, .slice ao l.length cap] w fun e w' => Wrote w base (bs ++ encList encText l) e w' := by
  have HO := mkH hok
  have HW := mkH hw
  have HT := At.texts_any w none 0 [] (Row.nil _ _) (by simp) ao cap l hr hl
  have h9 : (encList encText l).length ≤ 9 + 4105 * 1024 := by
    unfold encList
    rw [List.length_append]
    have h1 := flatT_len l hok
    have h2 := enc_len9 (n := l.length) (by omega)
    omega
  clear hok hw hr
  go_enter Tryz.func17, Tryz.ntmps17
  go_wp2_with fail
  refine HT.mono ?_
  rintro e w1 (⟨hg, v2, rfl, hown2, hb2⟩ | ⟨hg, rfl, hb2⟩)
  · rw [List.nil_append] at hown2
    have hl0 : ([] : List UInt8).length + (encList encText l).length = (encList encText l).length := by simp
    rw [hl0] at hown2
    obtain ⟨ao2, cap2, rfl⟩ := own_form hown2
    obtain ⟨-, -, hr2⟩ := Row.own hown2
    have hsz2 := hb2.size
    have HA := add_any w1 base v bs (encList encText l) ao2 cap2 (.int .i64 0) (HW.out.below hb2) (by omega) hr2 (by omega)
    have HB2 := mkH (below_down hb2 hb)
    have HU2 := mkH (U8.ofBelow hb2)
    clear hown2 hr2 hb2 HT HW hg
    go_wp2_with fail
    refine HA.mono ?_
    rintro e w3 ⟨v3, rfl, hw3, hb3, hu3⟩
    have HW3 := mkH hw3
    have HB3 := mkH (HB2.out.trans hb3)
    have HU3 := mkH (HU2.out.trans hu3)
    clear hw3 hb3 hu3
    go_wp2
    go_ret
    exact ⟨v3, rfl, HW3.out, HB3.out, HU3.out⟩
  · exact absurd (fun x hx => HO.out x hx) hg
end Go.Proofs.YtcpmcfagibmboabGreat.Ww
