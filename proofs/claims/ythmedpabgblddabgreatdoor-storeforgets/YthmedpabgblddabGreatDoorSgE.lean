/-
  The contracts of Segments and read.
-/
import Derived.Test.YthmedpabgblddabGreatDoorSgD
namespace Go.Proofs.YthmedpabgblddabGreatDoor.Sf
open Go.RowKit Kt Cs Cf Cv Dk Dp Da Db Dc Dd De Sq Sr Sa Sb Sc Se Pl
set_option linter.unusedVariables false
set_option maxRecDepth 20000

theorem infoB : (Tryz.prog.info? 30).map (fun i => (i.zero, i.size, i.bytes)) = some (some (.slice none 0 0), 1, 24) := by kernel_rfl

/-- New disks in a new row. -/
structure Nd (w w' : World) (v : Value) (FD : Nat → Prop) (Ps : List Nat) (ss : List St) : Prop where
  own : w'.ownsRow w.heap.size 45 1 v Ps.length (Pt Ps)
  sk : Sk w' FD Ps ss
  fd : ∀ k, FD k → w.heap.size ≤ k ∧ k < w'.heap.size
  blk : ∀ g, v.ownBlock = some g → ¬ FD g
  below : Below w.heap.size w w'

section
variable {w : World} {F : Nat → Prop} {B : Nat} {h : H}

/-- A row of slices of bytes. -/
structure Bx where
  ao : Option Addr
  cap : Nat
  bs : List UInt8
def Bv (l : List Bx) : List Value := l.map fun x => Value.slice x.ao x.bs.length x.cap
def BOk (w : World) (x : Bx) : Prop := Row w x.ao x.bs ∧ x.bs.length ≤ x.cap ∧ x.cap ≤ 9223372036854775807
theorem Bv_len (l : List Bx) : (Bv l).length = l.length := by simp [Bv]
theorem Bv_snoc (l : List Bx) (x : Bx) : Bv (l ++ [x]) = Bv l ++ [.slice x.ao x.bs.length x.cap] := by simp [Bv]
/-- .. that was laid since w. -/
structure Nb (w w' : World) (v : Value) (l : List Bx) : Prop where
  own : w'.ownsRow w.heap.size 30 1 v l.length (Bv l)
  ok : ∀ x ∈ l, BOk w' x ∧ ∀ b off, x.ao = some ⟨b, off, none⟩ → 0 < x.bs.length → w.heap.size ≤ b ∧ v.ownBlock ≠ some b
  below : Below w.heap.size w w'
theorem bok_fr {w w' : World} {Q : Nat → Prop} {x : Bx} (h : BOk w x) (hf : Fr Q w w') (hq : ∀ b off, x.ao = some ⟨b, off, none⟩ → 0 < x.bs.length → ¬ Q b) : BOk w' x := by
  refine ⟨fun h0 => ?_, h.2⟩
  obtain ⟨b, off, e, hc⟩ := h.1 h0
  refine ⟨b, off, e, fun i hi => ?_⟩
  have hl := World.block_lt_of_cell? w _ (hc i hi)
  rw [← hc i hi]
  exact World.cell?_of_block (w := w) (hf.heap (k := b) hl (hq b off e h0))

theorem read_down {p : Int × Int} (hl : Lg w F B h) (hp : 1 ≤ h.per) (hd : h.dn = some p) :
    Calls Tryz.prog 58 #[.pointer (some ⟨B, 0, none⟩)] w fun e w' => e = .returned (.slice none 0 0) ∧ w' = w := by
  obtain ⟨c0, c1⟩ := lg_cells hl
  rw [hd] at c1
  clear hl hd
  go_enter Tryz.func58, Tryz.ntmps58
  go_wp2_with fail
  refine (Sa.trouble_any w B _ true hp c0 c1).mono ?_
  rintro e w1 ⟨rfl, hw⟩
  have hw2 := hw.symm
  subst hw2
  clear hw
  go_wp2
  go_ret
  exact ⟨rfl, rfl⟩

set_option maxHeartbeats 1000000 in
theorem read_up (hl : Lg w F B h) (hp : 1 ≤ h.per) (hn : h.segs.length ≤ 256) (hd : h.dn = none) :
    Calls Tryz.prog 58 #[.pointer (some ⟨B, 0, none⟩)] w fun e w' => ∃ v l, e = .returned v ∧ Nb w w' v l ∧ l.map (·.bs) = h.segs.map (fun s => Ca.fcat (bod s)) := by
  obtain ⟨v, FD, Ps, h1, h2⟩ := lg_up hl hd
  obtain ⟨ao, cap, rfl⟩ := own_form h1.row.1
  have c0 := h1.c0
  have c1 := h1.c1
  have c2 := h1.c2
  have HL := mkH h1
  have HS := mkH h2
  have HN := mkH (show Ps.length = h.segs.length from by have := h2.1; simpa using this)
  have hb : Ps.length ≤ 256 := by rw [HN.out]; exact hn
  clear h1 h2 hn hl hd
  go_enter Tryz.func58, Tryz.ntmps58
  go_wp2_with fail
  refine (Sa.trouble_any w B _ false hp c0 c1).mono ?_
  rintro e w1 ⟨rfl, hw⟩
  have hw2 := hw.symm
  subst hw2
  clear hw
  go_wp2_with fail
  go_loopw [3, 16] (fun u i W => ∃ j : Nat, j ≤ Ps.length ∧ i = .int .i64 j ∧ ∃ a c l, u = .slice a j c ∧ Hid (Nb w W (.slice a j c) l ∧ l.length = j ∧ l.map (·.bs) = (h.segs.map (fun s => Ca.fcat (bod s))).take j)) (fun u i _ => Ps.length - (intOf i).toNat)
  case atStart => exact ⟨0, Nat.zero_le _, rfl, _, _, [], rfl, ⟨by simpa [Bv] using World.ownsRow_nil w w.heap.size 30 1, fun x hx => by simp at hx, Below.refl _ _⟩, rfl, by simp⟩
  case round =>
    obtain ⟨j, hj, rfl, a, c, l, rfl, HI⟩ := hrel
    clear c0 c1 c2
    by_cases hj1 : j = Ps.length
    · subst hj1
      go_wp2
      go_ret
      refine ⟨_, l, rfl, HI.out.1, ?_⟩
      have := HI.out.2.2
      rwa [List.take_of_length_le (by simp [HN.out])] at this
    · have hjl : j < Ps.length := by omega
      obtain ⟨D, hD⟩ := nth hjl
      have hbr := HI.out.1.below
      obtain ⟨g, rfl, hc⟩ := lr_at (HL.out.below hbr) hD
      obtain ⟨s, hs⟩ := nth (l := h.segs) (j := j) (by have := HN.out; omega)
      obtain ⟨G, d1, d2, -⟩ := (HS.out.below hbr).at (HL.out.below hbr).fdlt hD (by rw [List.getElem?_map, hs]; rfl)
      have ht := Dc.read_any d1
      have e1 : redB (dst none s) = Ca.fcat (bod s) := by simp only [redB, dst, Bool.false_eq_true, if_false]; exact kb_rb s
      have e2 : redE (dst none s) = 0 := rfl
      rw [e1, e2] at ht
      have HTT := mkH ht
      have HV := mkH hs
      have HBR := mkH hbr
      clear d1 d2 hs hD hbr ht e1 e2
      go_wp2_with fail
      refine HTT.out.mono ?_
      rintro e w2 ⟨v2, rfl, ⟨a2, c2, rfl, hlc, hcm, hr2, hnew⟩, hb2⟩
      generalize hX : Ca.fcat (bod s) = X at *
      have HX := mkH hX
      have HR2 := mkH hr2
      have HNEW := mkH hnew
      have HLC := mkH hlc
      have HCM := mkH hcm
      have HO := mkH (own_below HI.out.1.own hb2)
      rw [HI.out.2.1] at HO
      have HB2 := mkH hb2
      clear hb2 hc hr2 hnew hlc hcm hX HTT
      obtain ⟨xl, hxl⟩ : ∃ xl, X.length = xl := ⟨_, rfl⟩
      have HXL := mkH hxl
      rw [hxl]
      clear hxl
      go_wp2_with (at_builtin; refine (wpList_append_own_src_at _ rfl (.tmp 25) (.tmp 27) 85 85 rfl w.heap.size 30 (.slice none 0 0) 1 24 Tryz.underlying85 infoB rfl (by decide) _ _ _ rfl (own_below HO.out ((Below.refl _ _).alloc (Nat.le_refl _) _)) _ 1 [.slice a2 xl c2] rfl (src_val Tryz.underlying85 _ _ rfl) ?h63 ?hby ?hbs ?_))
      case h63 => unfold maxLen; omega
      case hby => omega
      case hbs => have := HBR.out.size; have := HB2.out.size; simp; omega
      intro v7 w7 hown7 hgrow7 hblk7
      obtain ⟨a7, c7, rfl⟩ := own_form hown7
      have hfr : Fr (fun k => (Value.slice a j c).ownBlock = some k) w2 w7 := ((Fr.refl _ _).alloc _).trans (fr_grown hgrow7) (fun i hi => .inl hi)
      have hs7 : w2.heap.size + 1 ≤ w7.heap.size := by have := hgrow7.size; simpa using this
      have hob : ∀ g, (Value.slice a j c).ownBlock = some g → w.heap.size ≤ g ∧ g < wr.heap.size := fun g hg => by
        have h1 := own_blk HI.out.1.own hg
        exact ⟨h1.2, h1.1⟩
      have hb7 : Below w.heap.size w w7 := (HBR.out.trans (HB2.out.mono HBR.out.size)).trans (hfr.below (fun k hk => (hob k hk).1) (Nat.le_trans HBR.out.size HB2.out.size))
      have hlt : ∀ (W : World) (x : Bx), BOk W x → ∀ b off, x.ao = some ⟨b, off, none⟩ → 0 < x.bs.length → b < W.heap.size := fun W x hx b off e h0 => by
        obtain ⟨b', off', e', hc⟩ := hx.1 h0
        rw [e] at e'
        simp only [Option.some.injEq, Addr.mk.injEq] at e'
        obtain ⟨rfl, rfl, -⟩ := e'
        exact World.block_lt_of_cell? W _ (hc 0 h0)
      have hx2 : BOk w2 ⟨a2, c2, X⟩ := ⟨HR2.out, by have := HLC.out; exact this, HCM.out⟩
      have hnb : Nb w w7 (.slice a7 (j + 1) c7) (l ++ [⟨a2, c2, X⟩]) := by
        refine ⟨?_, fun x hx => ?_, hb7⟩
        · rw [Bv_snoc, List.length_append, HI.out.2.1]
          simp only [HXL.out]
          exact hown7
        · rcases List.mem_append.1 hx with hx | hx
          · have h1 := HI.out.1.ok x hx
            have h2 : BOk w2 x := ⟨h1.1.1.below HB2.out, h1.1.2⟩
            refine ⟨bok_fr h2 hfr (fun b off e h0 => (h1.2 b off e h0).2), fun b off e h0 => ⟨(h1.2 b off e h0).1, fun hb => ?_⟩⟩
            have h3 := hlt wr x h1.1 b off e h0
            rcases hblk7 with y | y
            · rw [hb] at y; exact (h1.2 b off e h0).2 y.symm
            · rw [hb] at y
              have hgx : b = w2.heap.size + 1 := by simpa using y
              have := HB2.out.size; omega
          · simp only [List.mem_singleton] at hx
            subst hx
            refine ⟨bok_fr hx2 hfr (fun b off e h0 hb => ?_), fun b off e h0 => ⟨Nat.le_trans HBR.out.size (HNEW.out b off e), fun hb => ?_⟩⟩
            · have := HNEW.out b off e; have := (hob b hb).2; omega
            · have h3 := hlt w2 _ hx2 b off e h0
              have h4 := HNEW.out b off e
              rcases hblk7 with y | y
              · rw [hb] at y; have := (hob b y.symm).2; omega
              · rw [hb] at y
                have hgx : b = w2.heap.size + 1 := by simpa using y
                omega
      have HNB := mkH hnb
      have HP1 := mkH HI.out.2
      clear hnb hb7 hob hfr hown7 hgrow7 hblk7 hs7 hlt hx2
      go_wp2_with fail
      refine ⟨⟨j + 1, by omega, by go_num, a7, c7, l ++ [⟨a2, c2, X⟩], rfl, HNB.out, by rw [List.length_append, HP1.out.1]; rfl, ?_⟩, by simp [intOf]; omega⟩
      rw [List.map_append, HP1.out.2, List.take_add_one, List.getElem?_map, HV.out]
      simp [HX.out]
end
end Go.Proofs.YthmedpabgblddabGreatDoor.Sf
