/-
  A disk beside memory that stays: the contracts once more, as the laws use them; 'works'.
-/
import Derived.Test.YtgdmkhmdfijieaaDiE
namespace Go.Proofs.Ytgdmkhmdfijieaa.Df
open Go.RowKit Kt Dk Dp Da Db Dc Dd De
set_option linter.unusedVariables false
set_option maxRecDepth 20000

/-- Block D is a disk, apart from the blocks of G, which are as they were in w1. -/
def Dn (w1 : World) (G : Nat → Prop) (w : World) (D : Nat) (s : St) : Prop :=
  (∃ F, Ds w F D s ∧ ∀ k, F k → ¬ G k) ∧ Fr (fun k => ¬ G k) w1 w ∧ ∀ k, G k → k < w1.heap.size
theorem Dn.step {w1 : World} {G : Nat → Prop} {w w' : World} {D : Nat} {s s' : St} {F F' : Nat → Prop} (h : Dn w1 G w D s) (hF : ∀ k, F k → ¬ G k) (h' : Ds w' F' D s') (hn : Nx F w w' F') : Dn w1 G w' D s' := by
  obtain ⟨-, hf, hg⟩ := h
  refine ⟨⟨F', h', fun k hk hG => ?_⟩, ?_, hg⟩
  · rcases hn.2 k hk with x | x
    · exact hF k x hG
    · have := hg k hG; have := hf.size; omega
  · exact hf.trans hn.1 (fun i hi => .inl (hF i hi))
theorem Dn.below {w1 : World} {G : Nat → Prop} {w w' : World} {D : Nat} {s : St} (h : Dn w1 G w D s) (hb : Below w.heap.size w w') : Dn w1 G w' D s := by
  obtain ⟨⟨F, h1, h2⟩, hf, hg⟩ := h
  exact ⟨⟨F, h1.below hb, h2⟩, hf.trans (Fr.ofBelow (F := fun _ => False) hb) (fun _ x => x.elim), hg⟩
theorem Dn.row {w1 : World} {G : Nat → Prop} {w : World} {D : Nat} {s : St} (h : Dn w1 G w D s) {ao : Option Addr} {bs : List UInt8} (hr : Row w1 ao bs) (hG : ∀ b off, ao = some ⟨b, off, none⟩ → b < w1.heap.size → G b) : Row w ao bs := by
  intro h0
  obtain ⟨b, off, e, hc⟩ := hr h0
  refine ⟨b, off, e, fun i hi => ?_⟩
  have hl := World.block_lt_of_cell? w1 _ (hc i hi)
  rw [← hc i hi]
  exact World.cell?_of_block (w := w1) (h.2.1.heap (k := b) hl (fun x => x (hG b off e hl)))
theorem Dn.size {w1 : World} {G : Nat → Prop} {w : World} {D : Nat} {s : St} (h : Dn w1 G w D s) : w1.heap.size ≤ w.heap.size := h.2.1.size
theorem Dn.toBelow {w1 : World} {G : Nat → Prop} {w : World} {D : Nat} {s : St} (h : Dn w1 G w D s) {B : Nat} (hB : ∀ k, k < B → G k) : Below B w1 w := by
  obtain ⟨-, hf, hg⟩ := h
  exact ⟨hf.os, hf.tape, hf.output, hf.size, fun k hk => hf.block k (hg k (hB k hk)) (fun x => x (hB k hk))⟩
theorem Dn.len {w1 : World} {G : Nat → Prop} {w : World} {D : Nat} {s : St} (h : Dn w1 G w D s) : s.kept.length + s.rest.length ≤ 4194304 := by obtain ⟨⟨F, h, -⟩, -⟩ := h; exact h.len
/-- What a call handed back is protected from now on. -/
theorem Dn.more {w1 : World} {G : Nat → Prop} {w w' : World} {D : Nat} {s : St} (h : Dn w1 G w D s) (hb : Below w.heap.size w w') : Dn w' (fun k => G k ∨ (w.heap.size ≤ k ∧ k < w'.heap.size)) w' D s := by
  obtain ⟨⟨F, h1, h2⟩, hf, hg⟩ := h
  refine ⟨⟨F, h1.below hb, fun k hk hG => ?_⟩, Fr.refl _ _, fun k hk => ?_⟩
  · rcases hG with x | x
    · exact h2 k hk x
    · have := h1.lt k hk; omega
  · rcases hk with x | x
    · have := hg k x; have := hf.size; have := hb.size; omega
    · exact x.2
theorem Dn.new {w1 w' : World} {G : Nat → Prop} {D : Nat} {s : St} {F : Nat → Prop} (hf : Fr (fun k => ¬ G k) w1 w') (hg : ∀ k, G k → k < w1.heap.size) (h : Ds w' F D s) (hF : ∀ k, F k → w1.heap.size ≤ k) : Dn w1 G w' D s :=
  ⟨⟨F, h, fun k hk hG => by have := hF k hk; have := hg k hG; omega⟩, hf, hg⟩

section
variable {w1 : World} {G : Nat → Prop} {w : World} {D : Nat} {s : St}
theorem append_dn (h : Dn w1 G w D s) (ao : Option Addr) (cap : Nat) (bs : List UInt8) (hr : Row w ao bs) (hl : bs.length ≤ 9223372036854775807) :
    Calls Try.prog 10 #[.pointer (some ⟨D, 0, none⟩), .slice ao bs.length cap] w fun e w' => e = .returned (.int .i64 (appE s bs.length)) ∧ Dn w1 G w' D (appS s bs) := by
  obtain ⟨F, hd, hF⟩ := h.1
  refine (append_any hd ao cap bs hr hl).mono ?_
  rintro e w' ⟨he, F', h', hn⟩
  exact ⟨he, h.step hF h' hn⟩

theorem sync_dn (h : Dn w1 G w D s) :
    Calls Try.prog 19 #[.pointer (some ⟨D, 0, none⟩)] w fun e w' => e = .returned (.int .i64 (synE s)) ∧ Dn w1 G w' D (synS s) := by
  obtain ⟨F, hd, hF⟩ := h.1
  refine (sync_any hd).mono ?_
  rintro e w' ⟨he, h', hn⟩
  exact ⟨he, h.step hF h' hn⟩

theorem cut_dn (h : Dn w1 G w D s) (n : Int) :
    Calls Try.prog 11 #[.pointer (some ⟨D, 0, none⟩), .int .i64 n] w fun e w' => e = .returned (.int .i64 (cutE s n)) ∧ Dn w1 G w' D (cutS s n) := by
  obtain ⟨F, hd, hF⟩ := h.1
  refine (cut_any hd n).mono ?_
  rintro e w' ⟨he, h', hn⟩
  exact ⟨he, h.step hF h' hn⟩

theorem swap_dn (h : Dn w1 G w D s) (ao : Option Addr) (cap : Nat) (bs : List UInt8) (hr : Row w ao bs) (hl : bs.length ≤ 9223372036854775807) :
    Calls Try.prog 20 #[.pointer (some ⟨D, 0, none⟩), .slice ao bs.length cap] w fun e w' => e = .returned (.int .i64 (swpE s bs.length)) ∧ Dn w1 G w' D (swpS s bs) := by
  obtain ⟨F, hd, hF⟩ := h.1
  refine (swap_any hd ao cap bs hr hl).mono ?_
  rintro e w' ⟨he, F', h', hn⟩
  exact ⟨he, h.step hF h' hn⟩

theorem crash_dn (h : Dn w1 G w D s) (k f : Int) (hf : f ≤ 9223372036854775807) :
    Calls Try.prog 21 #[.pointer (some ⟨D, 0, none⟩), .int .i64 k, .int .i64 f] w fun e w' => e = .returned (.int .i64 (crsE s k)) ∧ Dn w1 G w' D (crsS s k f) := by
  obtain ⟨F, hd, hF⟩ := h.1
  refine (crash_any hd k f hf).mono ?_
  rintro e w' ⟨he, h', hn⟩
  exact ⟨he, h.step hF h' hn⟩

theorem restart_dn (h : Dn w1 G w D s) :
    Calls Try.prog 22 #[.pointer (some ⟨D, 0, none⟩)] w fun e w' => e = .returned (.int .i64 (rstE s)) ∧ Dn w1 G w' D (rstS s) := by
  obtain ⟨F, hd, hF⟩ := h.1
  refine (restart_any hd).mono ?_
  rintro e w' ⟨he, h', hn⟩
  exact ⟨he, h.step hF h' hn⟩

theorem read_dn (h : Dn w1 G w D s) :
    Calls Try.prog 13 #[.pointer (some ⟨D, 0, none⟩)] w fun e w' => ∃ v, e = .returned (.tuple #[v, .int .i64 (redE s)]) ∧ New w w' v (redB s) ∧ Below w.heap.size w w' ∧ Dn w1 G w' D s := by
  obtain ⟨F, hd, hF⟩ := h.1
  refine (read_any hd).mono ?_
  rintro e w' ⟨v, he, hn, hb⟩
  exact ⟨v, he, hn, hb, h.below hb⟩

theorem kept_dn (h : Dn w1 G w D s) :
    Calls Try.prog 17 #[.pointer (some ⟨D, 0, none⟩)] w fun e w' => ∃ v, e = .returned v ∧ New w w' v s.kept ∧ Below w.heap.size w w' ∧ Dn w1 G w' D s := by
  obtain ⟨F, hd, hF⟩ := h.1
  refine (kept_any hd).mono ?_
  rintro e w' ⟨v, he, hn, hb⟩
  exact ⟨v, he, hn, hb, h.below hb⟩

theorem down_dn (h : Dn w1 G w D s) : Calls Try.prog 15 #[.pointer (some ⟨D, 0, none⟩)] w fun e w' => e = .returned (.bool s.down) ∧ w' = w := by
  obtain ⟨F, hd, hF⟩ := h.1
  exact down_any hd

theorem size_dn (h : Dn w1 G w D s) : Calls Try.prog 16 #[.pointer (some ⟨D, 0, none⟩)] w fun e w' => e = .returned (.int .i64 ((s.kept.length + s.rest.length : Nat) : Int)) ∧ w' = w := by
  obtain ⟨F, hd, hF⟩ := h.1
  exact size_any hd
end

theorem new_dn (w : World) : Calls Try.prog 8 #[] w fun e w' => e = .returned (.pointer (some ⟨w.heap.size, 0, none⟩)) ∧ Dn w (fun k => k < w.heap.size) w' w.heap.size Dp.new := by
  refine (new_any w).mono ?_
  rintro e w' ⟨he, h, hb⟩
  exact ⟨he, Dn.new (Fr.ofBelow hb) (fun _ h => h) h (fun k hk => by omega)⟩

/-- Bytes that were just laid. -/
theorem row_new (w : World) (bs : List UInt8) (C : Array Value) (hC : C = (U bs).toArray) (T : TypeId) (fr : Nat × Nat) : Row (w.alloc (.cells C T fr)) (some ⟨w.heap.size, 0, none⟩) bs := by
  intro h0
  refine ⟨_, 0, rfl, fun i hi => ?_⟩
  rw [Nat.zero_add, cell_of_row _ _ _ _ _ _ (heap_alloc_new w (.cells C T fr)), hC]
  simpa using U_at bs i hi
theorem below_alloc (w : World) (o : Obj) : Below w.heap.size w (w.alloc o) := (Below.refl _ w).alloc (Nat.le_refl _) o

set_option maxHeartbeats 1000000 in
theorem works_any (w : World) : Calls Try.prog 18 #[] w fun e w' => e = .returned (.bool true) ∧ Below w.heap.size w w' := by
  go_enter Try.func18, Try.ntmps18
  have kc := fun (w : World) (C : Array Value) (n c : Nat) => Lib.run_convert_bytes_const (P := Try.prog) w 26 5 C n c Try.underlying26 Try.underlying5
  go_wp2_with fail
  refine (new_dn w).mono ?_
  rintro e w1 ⟨rfl, h1⟩
  obtain ⟨D, hD⟩ : ∃ D, w.heap.size = D := ⟨_, rfl⟩
  have H1 : Hid (Dn w (fun k => k < w.heap.size) w1 D Dp.new) := by unfold Hid; rw [← hD]; exact h1
  rw [hD]
  clear h1
  go_wp2_with fail
  refine (append_dn (H1.out.below (below_alloc w1 _)) _ 3 [97, 98, 99] (row_new w1 [97, 98, 99] _ rfl _ _) (by decide)).mono ?_
  rintro e w2 ⟨he, h2⟩
  obtain rfl : e = .returned (.int .i64 0) := he
  have H2 : Hid (Dn w (fun k => k < w.heap.size) w2 D ⟨[], [97, 98, 99], false⟩) := h2
  clear H1 h2
  go_wp2_with fail
  refine (sync_dn H2.out).mono ?_
  rintro e w3 ⟨he, h3⟩
  obtain rfl : e = .returned (.int .i64 0) := he
  have H3 : Hid (Dn w (fun k => k < w.heap.size) w3 D ⟨[97, 98, 99], [], false⟩) := h3
  clear H2 h3
  go_wp2_with fail
  refine (append_dn (H3.out.below (below_alloc w3 _)) _ 2 [100, 101] (row_new w3 [100, 101] _ rfl _ _) (by decide)).mono ?_
  rintro e w4 ⟨he, h4⟩
  obtain rfl : e = .returned (.int .i64 0) := he
  have H4 : Hid (Dn w (fun k => k < w.heap.size) w4 D ⟨[97, 98, 99], [100, 101], false⟩) := h4
  clear H3 h4
  go_wp2_with fail
  refine (crash_dn H4.out 1 0 (by decide)).mono ?_
  rintro e w5 ⟨he, h5⟩
  obtain rfl : e = .returned (.int .i64 0) := he
  have H5 : Hid (Dn w (fun k => k < w.heap.size) w5 D ⟨[97, 98, 99], [101], true⟩) := by
    have e : crsS ⟨[97, 98, 99], [100, 101], false⟩ 1 0 = ⟨[97, 98, 99], [101], true⟩ := by rfl
    rw [← e]; exact h5
  clear H4 h5
  go_wp2_with fail
  refine (restart_dn H5.out).mono ?_
  rintro e w6 ⟨he, h6⟩
  obtain rfl : e = .returned (.int .i64 0) := he
  have H6 : Hid (Dn w (fun k => k < w.heap.size) w6 D ⟨[97, 98, 99, 101], [], false⟩) := h6
  clear H5 h6
  go_wp2_with fail
  refine (read_dn H6.out).mono ?_
  rintro e w7 ⟨v, he, ⟨ao, cap, rfl, hc1, hc2, hrow, -⟩, hb, h7⟩
  obtain rfl : e = .returned (.tuple #[.slice ao 4 cap, .int .i64 0]) := he
  have hs := run_string (P := Try.prog) (dst := 9) Try.underlying26 Try.underlying5 Try.underlying9 hrow cap
  have hb7 := h7.toBelow (fun k hk => hk)
  have HB := mkH hb7
  clear H6 h7 hb hrow hb7
  have e4 : S (redB ⟨[97, 98, 99, 101], [], false⟩) = { data := #[97, 98, 99, 101] } := rfl
  have e5 : (redB ⟨[97, 98, 99, 101], [], false⟩).length = 4 := rfl
  rw [e4] at hs
  rw [e5] at hs hc1
  clear e4 e5
  go_wp2
  go_ret
  exact ⟨rfl, HB.out⟩
end Go.Proofs.Ytgdmkhmdfijieaa.Df
