/-
  Rows of entries, of deliveries and of ranges, and their clones. Written by gen_fre.py.
-/
import Derived.Test.YtabckkepkennhaaFrB
namespace Go.Proofs.Ytabckkepkennhaa.Fe
open Go.RowKit Kt Gf Gk Fp Nr
set_option linter.unusedVariables false
set_option linter.unusedSimpArgs false
set_option maxRecDepth 20000

/-- An entry; a delivery; a range. -/
structure En where
  g : ByteArray
  b : ByteArray
  t : ByteArray
  rq : Int
  rg : ByteArray
  rs : Int
  rc : Int
structure Gn where
  rq : Int
  rg : ByteArray
  rs : Int
  rc : Int
  b : ByteArray
  s : Int
def cE (x : En) : List Value := [.string x.g, .string x.b, .string x.t, .int .i64 x.rq, .string x.rg, .int .i64 x.rs, .int .i64 x.rc]
def cG (x : Gn) : List Value := [.int .i64 x.rq, .string x.rg, .int .i64 x.rs, .int .i64 x.rc, .string x.b, .int .i64 x.s]
def cR (x : Int × Int) : List Value := [.int .i64 x.1, .int .i64 x.2]

theorem cE_len (x : En) : (cE x).length = 7 := rfl
theorem cE_one (x : En) : ∀ u ∈ cE x, u.oneCell' = true := by intro u hu; simp [cE] at hu; rcases hu with rfl | rfl | rfl | rfl | rfl | rfl | rfl <;> rfl
theorem infoE : (Try.prog.info? 92).map (fun i => (i.zero, i.size, i.bytes)) = some (some (.agg #[.string .empty, .string .empty, .string .empty, .int .i64 0, .string .empty, .int .i64 0, .int .i64 0]), 7, 88) := by kernel_rfl
theorem nilE (w : World) (B e : Nat) : w.ownsRow B e 7 (.slice none 0 0) 0 (Fl cE []) := by simpa [Fl] using World.ownsRow_nil w _ _ _

set_option maxHeartbeats 1000000 in
theorem cloneE_any (w : World) (a : Option Addr) (c : Nat) (ps : List En) (h : RowS 7 cE w a ps) (hl : ps.length ≤ 1000000000) :
    Calls Try.prog 29 #[.slice a ps.length c] w fun x w' => ∃ a' c', x = .returned (.slice a' ps.length c') ∧ w'.ownsRow w.heap.size 92 7 (.slice a' ps.length c') ps.length (Fl cE ps) ∧ Below w.heap.size w w' := by
  cases a with
  | none =>
    have h0 : ps = [] := by
      rcases Nat.eq_zero_or_pos ps.length with h1 | h1
      · exact List.eq_nil_of_length_eq_zero h1
      · obtain ⟨b, off, e, _⟩ := h h1; cases e
    subst h0
    have hq := eql_nil (P := Try.prog) w 43 92 none 0 c Try.underlying43
    simp only [Option.isNone] at hq
    clear h
    go_enter Try.func29, Try.ntmps29
    go_wp2
    go_ret
    exact ⟨none, 0, rfl, nilE _ _ _, Below.refl _ _⟩
  | some a =>
    have hq := eql_nil (P := Try.prog) w 43 92 (some a) ps.length c Try.underlying43
    simp only [Option.isNone] at hq
    have hbz : ps.length * 88 ≤ 140737488355328 := by omega
    have HS := mkH (RowS.src cE_len cE_one (by decide) (P := Try.prog) Try.underlying43 (h.below ((Below.refl w.heap.size w).alloc (Nat.le_refl _) (.cells #[] 92))) c)
    clear h
    go_enter Try.func29, Try.ntmps29
    go_wp2_with (at_builtin; refine (wpList_append_own_src _ rfl (.tmp 5) (.tmp 6) 43 43 rfl w.heap.size 92 _ 7 88 Try.underlying43 infoE rfl (by decide) _ 0 [] rfl (World.ownsRow_made w #[] 0 (Nat.le_refl _) (Nat.zero_le _) rfl) _ ps.length (Fl cE ps) rfl HS.out ?h632 ?hby2 ?hbs2 ?_))
    case h632 => unfold maxLen; omega
    case hby2 => omega
    case hbs2 => simp
    intro v2 w2 hown2 hgrow2
    have hbel := below_own (World.ownsRow_made (e := 92) (size := 7) w #[] 0 (Nat.le_refl _) (Nat.zero_le _) rfl) hgrow2 ((Below.refl w.heap.size w).alloc (Nat.le_refl _) (.cells #[] 92)) (by simp)
    have hown3 : w2.ownsRow w.heap.size 92 7 v2 ps.length (Fl cE ps) := by simpa using hown2
    clear hown2 hgrow2 HS
    obtain ⟨a', c', rfl⟩ := own_form hown3
    go_wp2
    go_ret
    exact ⟨a', c', rfl, hown3, hbel⟩

theorem cG_len (x : Gn) : (cG x).length = 6 := rfl
theorem cG_one (x : Gn) : ∀ u ∈ cG x, u.oneCell' = true := by intro u hu; simp [cG] at hu; rcases hu with rfl | rfl | rfl | rfl | rfl | rfl <;> rfl
theorem infoG : (Try.prog.info? 105).map (fun i => (i.zero, i.size, i.bytes)) = some (some (.agg #[.int .i64 0, .string .empty, .int .i64 0, .int .i64 0, .string .empty, .int .i64 0]), 6, 64) := by kernel_rfl
theorem nilG (w : World) (B e : Nat) : w.ownsRow B e 6 (.slice none 0 0) 0 (Fl cG []) := by simpa [Fl] using World.ownsRow_nil w _ _ _

set_option maxHeartbeats 1000000 in
theorem cloneG_any (w : World) (a : Option Addr) (c : Nat) (ps : List Gn) (h : RowS 6 cG w a ps) (hl : ps.length ≤ 1000000000) :
    Calls Try.prog 45 #[.slice a ps.length c] w fun x w' => ∃ a' c', x = .returned (.slice a' ps.length c') ∧ w'.ownsRow w.heap.size 105 6 (.slice a' ps.length c') ps.length (Fl cG ps) ∧ Below w.heap.size w w' := by
  cases a with
  | none =>
    have h0 : ps = [] := by
      rcases Nat.eq_zero_or_pos ps.length with h1 | h1
      · exact List.eq_nil_of_length_eq_zero h1
      · obtain ⟨b, off, e, _⟩ := h h1; cases e
    subst h0
    have hq := eql_nil (P := Try.prog) w 34 105 none 0 c Try.underlying34
    simp only [Option.isNone] at hq
    clear h
    go_enter Try.func45, Try.ntmps45
    go_wp2
    go_ret
    exact ⟨none, 0, rfl, nilG _ _ _, Below.refl _ _⟩
  | some a =>
    have hq := eql_nil (P := Try.prog) w 34 105 (some a) ps.length c Try.underlying34
    simp only [Option.isNone] at hq
    have hbz : ps.length * 64 ≤ 140737488355328 := by omega
    have HS := mkH (RowS.src cG_len cG_one (by decide) (P := Try.prog) Try.underlying34 (h.below ((Below.refl w.heap.size w).alloc (Nat.le_refl _) (.cells #[] 105))) c)
    clear h
    go_enter Try.func45, Try.ntmps45
    go_wp2_with (at_builtin; refine (wpList_append_own_src _ rfl (.tmp 5) (.tmp 6) 34 34 rfl w.heap.size 105 _ 6 64 Try.underlying34 infoG rfl (by decide) _ 0 [] rfl (World.ownsRow_made w #[] 0 (Nat.le_refl _) (Nat.zero_le _) rfl) _ ps.length (Fl cG ps) rfl HS.out ?h632 ?hby2 ?hbs2 ?_))
    case h632 => unfold maxLen; omega
    case hby2 => omega
    case hbs2 => simp
    intro v2 w2 hown2 hgrow2
    have hbel := below_own (World.ownsRow_made (e := 105) (size := 6) w #[] 0 (Nat.le_refl _) (Nat.zero_le _) rfl) hgrow2 ((Below.refl w.heap.size w).alloc (Nat.le_refl _) (.cells #[] 105)) (by simp)
    have hown3 : w2.ownsRow w.heap.size 105 6 v2 ps.length (Fl cG ps) := by simpa using hown2
    clear hown2 hgrow2 HS
    obtain ⟨a', c', rfl⟩ := own_form hown3
    go_wp2
    go_ret
    exact ⟨a', c', rfl, hown3, hbel⟩

theorem cR_len (x : (Int × Int)) : (cR x).length = 2 := rfl
theorem cR_one (x : (Int × Int)) : ∀ u ∈ cR x, u.oneCell' = true := by intro u hu; simp [cR] at hu; rcases hu with rfl | rfl <;> rfl
theorem infoR : (Try.prog.info? 29).map (fun i => (i.zero, i.size, i.bytes)) = some (some (.agg #[.int .i64 0, .int .i64 0]), 2, 16) := by kernel_rfl
theorem nilR (w : World) (B e : Nat) : w.ownsRow B e 2 (.slice none 0 0) 0 (Fl cR []) := by simpa [Fl] using World.ownsRow_nil w _ _ _

set_option maxHeartbeats 1000000 in
theorem cloneR_any (w : World) (a : Option Addr) (c : Nat) (ps : List (Int × Int)) (h : RowS 2 cR w a ps) (hl : ps.length ≤ 1000000000) :
    Calls Try.prog 47 #[.slice a ps.length c] w fun x w' => ∃ a' c', x = .returned (.slice a' ps.length c') ∧ w'.ownsRow w.heap.size 29 2 (.slice a' ps.length c') ps.length (Fl cR ps) ∧ Below w.heap.size w w' := by
  cases a with
  | none =>
    have h0 : ps = [] := by
      rcases Nat.eq_zero_or_pos ps.length with h1 | h1
      · exact List.eq_nil_of_length_eq_zero h1
      · obtain ⟨b, off, e, _⟩ := h h1; cases e
    subst h0
    have hq := eql_nil (P := Try.prog) w 35 29 none 0 c Try.underlying35
    simp only [Option.isNone] at hq
    clear h
    go_enter Try.func47, Try.ntmps47
    go_wp2
    go_ret
    exact ⟨none, 0, rfl, nilR _ _ _, Below.refl _ _⟩
  | some a =>
    have hq := eql_nil (P := Try.prog) w 35 29 (some a) ps.length c Try.underlying35
    simp only [Option.isNone] at hq
    have hbz : ps.length * 16 ≤ 140737488355328 := by omega
    have HS := mkH (RowS.src cR_len cR_one (by decide) (P := Try.prog) Try.underlying35 (h.below ((Below.refl w.heap.size w).alloc (Nat.le_refl _) (.cells #[] 29))) c)
    clear h
    go_enter Try.func47, Try.ntmps47
    go_wp2_with (at_builtin; refine (wpList_append_own_src _ rfl (.tmp 5) (.tmp 6) 35 35 rfl w.heap.size 29 _ 2 16 Try.underlying35 infoR rfl (by decide) _ 0 [] rfl (World.ownsRow_made w #[] 0 (Nat.le_refl _) (Nat.zero_le _) rfl) _ ps.length (Fl cR ps) rfl HS.out ?h632 ?hby2 ?hbs2 ?_))
    case h632 => unfold maxLen; omega
    case hby2 => omega
    case hbs2 => simp
    intro v2 w2 hown2 hgrow2
    have hbel := below_own (World.ownsRow_made (e := 29) (size := 2) w #[] 0 (Nat.le_refl _) (Nat.zero_le _) rfl) hgrow2 ((Below.refl w.heap.size w).alloc (Nat.le_refl _) (.cells #[] 29)) (by simp)
    have hown3 : w2.ownsRow w.heap.size 29 2 v2 ps.length (Fl cR ps) := by simpa using hown2
    clear hown2 hgrow2 HS
    obtain ⟨a', c', rfl⟩ := own_form hown3
    go_wp2
    go_ret
    exact ⟨a', c', rfl, hown3, hbel⟩
end Go.Proofs.Ytabckkepkennhaa.Fe
