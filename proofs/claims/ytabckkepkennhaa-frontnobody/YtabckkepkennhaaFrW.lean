/-
  A client's Result, of replies without lists.
-/
import Derived.Test.YtabckkepkennhaaFrU
namespace Go.Proofs.Ytabckkepkennhaa.Fw
open Go.RowKit Kt Gf Gk Fp Fa Fb Fc Fr1 Fo Fv Fj
set_option linter.unusedVariables false
set_option linter.unusedSimpArgs false
set_option maxRecDepth 20000

theorem load_cp {w : World} {b off : Nat} {x : Int × Int × Int} (hc : ∀ j v, (cP x)[j]? = some v → w.cell? ⟨b, off + j, none⟩ = some v) : (loadVar 37 ⟨b, off, none⟩).run Try.prog w = .ok (.agg (Rz x.1 x.2.1 x.2.2)) w :=
  run_load_agg (P := Try.prog) 37 _ Try.underlying37 rfl b off (cP x) infoRp hc
set_option maxHeartbeats 4000000 in
theorem Result_any {w : World} {B m : Nat} {a : As} {s : Ks} (h : Bx w B (Xc (kl s) a (.map (some m))) 57) {ra : Option Addr} {rc : Nat} {rs : List (Int × Int × Int)} (hr : s.reps = .slice ra rs.length rc) (hrow : Nr.RowS 6 cP w ra rs) (hl : rs.length ≤ 1000000) :
    Calls Try.prog 7 #[.pointer (some ⟨B, 0, none⟩)] w fun x w' => ∃ l c, x = .returned (.tuple #[.slice l rs.length c, .bool (!s.busy && decide (s.kind ≠ 0))]) ∧ Nr.RowS 6 cP w' l rs ∧ Below w.heap.size w w' := by
  have HM := mkH (isMadeC_any h)
  have HX := mkH h
  have HR := mkH hrow
  have c35 : w.cell? ⟨B, 35, none⟩ = some (.slice ra rs.length rc) := (h.cell 35 s.reps rfl).trans (congrArg some hr)
  clear h hrow
  go_enter Try.func7, Try.ntmps7
  go_wp2_with (refine HM.out.mono ?_; rintro e w2 ⟨rfl, rfl⟩)
  go_loopw [4, 15] (fun u i wr => ∃ k : Nat, k ≤ rs.length ∧ i = .int .i64 k ∧ Hid (∃ l c, u = .slice l k c ∧ wr.ownsRow w2.heap.size 37 6 (.slice l k c) k (Nr.Fl cP (rs.take k))) ∧ Hid (Below w2.heap.size w2 wr)) (fun _ i _ => rs.length - (intOf i).toNat)
  case atStart => exact ⟨0, Nat.zero_le _, rfl, mkH ⟨none, 0, rfl, by simpa [Nr.Fl] using World.ownsRow_nil w2 _ _ _⟩, mkH (Below.refl _ _)⟩
  case round =>
    obtain ⟨k, hk, rfl, HO, HB⟩ := hrel
    by_cases hlt : k < rs.length
    · obtain ⟨x, hx⟩ := Nr.some_of hlt
      obtain ⟨l, c, rfl, ho⟩ := HO.out
      obtain ⟨b, o, rfl, hcs⟩ := (HR.out.below HB.out) (by omega)
      have HC := mkH (hcs k x hx)
      have HO1 := mkH ho
      have hi : (k : Int) < (rs.length : Int) := by omega
      have hi0 : (0 : Int) ≤ (k : Int) := by omega
      have HX1 := mkH hx
      clear hx ho hcs HO
      go_wp2_with (first
        | (refine Gk.wpList_ld (ty := 37) (x := .tmp 17) (p := ⟨b, o + k * 6, none⟩) (v := .agg (Rz x.1 x.2.1 x.2.2)) rfl rfl rfl (load_cp HC.out) ?_)
        | (refine Gk.wpList_st rfl (ty := 37) (x := .tmp 6) (y := .tmp 18) (cs := Rz x.1 x.2.1 x.2.2) (old := Rz 0 0 0) rfl rfl rfl (Bx.new wr _ _) infoRp rfl (Rz_one _ _ _) ?_
           have HX5 : Hid (Bx ((wr.alloc (.cells #[.int .i64 0, .int .i64 0, .int .i64 0, .slice none 0 0, .slice none 0 0, .slice none 0 0] 37)).setRow wr.heap.size (Rz x.1 x.2.1 x.2.2)) wr.heap.size (Rz x.1 x.2.1 x.2.2) 37) := mkH ((Bx.new wr _ _).row)
           have HB5 : Hid (Below w2.heap.size w2 ((wr.alloc (.cells #[.int .i64 0, .int .i64 0, .int .i64 0, .slice none 0 0, .slice none 0 0, .slice none 0 0] 37)).setRow wr.heap.size (Rz x.1 x.2.1 x.2.2))) := mkH (below_setRow (HB.out.alloc HB.out.size _) HB.out.size _)
           have HO5 : Hid (World.ownsRow ((wr.alloc (.cells #[.int .i64 0, .int .i64 0, .int .i64 0, .slice none 0 0, .slice none 0 0, .slice none 0 0] 37)).setRow wr.heap.size (Rz x.1 x.2.1 x.2.2)) w2.heap.size 37 6 (.slice l k c) k (Nr.Fl cP (rs.take k))) := mkH (Nr.own_fr (Nr.own_below HO1.out ((Below.refl _ _).alloc (Nat.le_refl _) _)) (Bx.frrow (b := wr.heap.size) (Rz x.1 x.2.1 x.2.2)) (fun q hq e => by have := (HO1.out.lt q hq).2; omega))
           clear HB HO1 HC
           generalize ((wr.alloc (.cells #[.int .i64 0, .int .i64 0, .int .i64 0, .slice none 0 0, .slice none 0 0, .slice none 0 0] 37)).setRow wr.heap.size (Rz x.1 x.2.1 x.2.2)) = W5 at *
           generalize wr.heap.size = n5 at *
           have HOR := mkH (show Calls Try.prog 27 #[.agg (Rz x.1 x.2.1 x.2.2)] W5 (fun e w' => e = .returned (.agg #[.int .i64 x.1, .int .i64 x.2.1, .int .i64 x.2.2, .slice none 0 0, .slice none 0 0, .slice none 0 0]) ∧ Below W5.heap.size W5 w') from ownReply_nil W5 x.1 x.2.1 x.2.2))
        | (refine Gk.wpList_ld (ty := 37) (x := .tmp 6) (p := ⟨n5, 0, none⟩) (v := .agg (Rz x.1 x.2.1 x.2.2)) rfl rfl rfl (load_rz HX5.out) ?_)
        | (refine HOR.out.mono ?_; rintro e w6 ⟨rfl, hb6⟩; have HB6 : Hid (Below w2.heap.size w2 (w6.alloc (.cells #[.int .i64 x.1, .int .i64 x.2.1, .int .i64 x.2.2, .slice none 0 0, .slice none 0 0, .slice none 0 0] 37))) := mkH ((HB5.out.trans (hb6.mono HB5.out.size)).alloc (Nat.le_trans HB5.out.size hb6.size) _); have HO6 : Hid (World.ownsRow (w6.alloc (.cells #[.int .i64 x.1, .int .i64 x.2.1, .int .i64 x.2.2, .slice none 0 0, .slice none 0 0, .slice none 0 0] 37)) w2.heap.size 37 6 (.slice l k c) k (Nr.Fl cP (rs.take k))) := mkH (Nr.own_below (Nr.own_below HO5.out hb6) ((Below.refl _ _).alloc (Nat.le_refl _) _)); have HSR : Hid (Src Try.prog 6 55 (.slice (some ⟨w6.heap.size, 0, none⟩) 1 1) 1 (Nr.Fl cP [x]) (w6.alloc (.cells #[.int .i64 x.1, .int .i64 x.2.1, .int .i64 x.2.2, .slice none 0 0, .slice none 0 0, .slice none 0 0] 37))) := mkH (Nr.src_new cP_len cP_one (by decide) (P := Try.prog) Try.underlying55 w6 x 37); clear hb6)
        | (at_builtin; refine (wpList_append_own_src _ rfl (.tmp 19) (.tmp 22) 55 55 rfl w2.heap.size 37 _ 6 96 Try.underlying55 infoPz rfl (by decide) _ k (Nr.Fl cP (rs.take k)) rfl HO6.out _ 1 (Nr.Fl cP [x]) rfl HSR.out ?h63 ?hby ?hbs ?_)))
      case h63 => unfold maxLen; omega
      case hby => omega
      case hbs => exact HB6.out.size
      intro v2 w8 hown2 hgrow2
      have HB8 := mkH (below_own HO6.out hgrow2 HB6.out (by have := HB6.out.size; omega))
      have htk : rs.take (k + 1) = rs.take k ++ [x] := by rw [List.take_add_one, HX1.out]; rfl
      have hform := own_form hown2
      obtain ⟨l8, c8, rfl⟩ := hform
      have HO8 : Hid (∃ l c, (Value.slice l8 (k + 1) c8) = .slice l (k + 1) c ∧ w8.ownsRow w2.heap.size 37 6 (.slice l (k + 1) c) (k + 1) (Nr.Fl cP (rs.take (k + 1)))) := mkH ⟨l8, c8, rfl, by rw [htk, Nr.Fl_append]; exact hown2⟩
      clear hown2 hgrow2 htk
      go_wp2
      go_roundw
      case rel => exact ⟨k + 1, by omega, by go_num, HO8, HB8⟩
      case measure => simp [intOf]; omega
    · have : k = rs.length := by omega
      subst this
      obtain ⟨l, c, rfl, ho⟩ := HO.out
      rw [List.take_length] at ho
      have HO1 := mkH ho
      have hX := HX.out.bel HB.out
      have c33 : wr.cell? ⟨B, 33, none⟩ = some (.bool s.busy) := hX.cell 33 _ rfl
      have c27 : wr.cell? ⟨B, 27, none⟩ = some (.int .i64 s.kind) := hX.cell 27 _ rfl
      clear ho hX HO HR
      cases hbz : s.busy
      · rw [hbz] at c33
        by_cases hk0 : s.kind = 0
        · rw [hk0] at c27
          have HR2 : Hid ((!s.busy && decide (s.kind ≠ 0)) = false) := mkH (by simp [hk0])
          clear hk0 hbz
          go_wp2_with fail
          go_quiet (fail)
          go_wp2
          go_ret2
          exact ⟨l, c, (show Ending.returned (.tuple #[.slice l rs.length c, .bool false]) = Ending.returned (.tuple #[.slice l rs.length c, .bool (!s.busy && decide (s.kind ≠ 0))]) from by rw [HR2.out]), Nr.RowS.own cP_len HO1.out, Gf.below_drewN HB.out _⟩
        · have hb0 : (s.kind == 0) = false := by simpa using hk0
          have HR2 : Hid ((!s.busy && decide (s.kind ≠ 0)) = true) := mkH (by simp [hk0, hbz])
          have HNE : Hid ((s.kind != 0) = true) := mkH (by simpa using hk0)
          clear hk0 hbz
          go_wp2_with fail
          go_quiet (fail)
          go_wp2
          go_ret2
          exact ⟨l, c, (show Ending.returned (.tuple #[.slice l rs.length c, .bool (s.kind != 0)]) = Ending.returned (.tuple #[.slice l rs.length c, .bool (!s.busy && decide (s.kind ≠ 0))]) from by rw [HR2.out, HNE.out]), Nr.RowS.own cP_len HO1.out, Gf.below_drewN HB.out _⟩
      · rw [hbz] at c33
        have HR2 : Hid ((!s.busy && decide (s.kind ≠ 0)) = false) := mkH (by rw [hbz]; rfl)
        clear hbz
        go_wp2_with fail
        go_quiet (fail)
        go_wp2
        go_ret2
        exact ⟨l, c, (show Ending.returned (.tuple #[.slice l rs.length c, .bool false]) = Ending.returned (.tuple #[.slice l rs.length c, .bool (!s.busy && decide (s.kind ≠ 0))]) from by rw [HR2.out]), Nr.RowS.own cP_len HO1.out, Gf.below_drewN HB.out _⟩
end Go.Proofs.Ytabckkepkennhaa.Fw
