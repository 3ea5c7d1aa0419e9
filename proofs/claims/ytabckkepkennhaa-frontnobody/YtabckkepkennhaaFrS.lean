/-
  Start of a call.
-/
import Derived.Test.YtabckkepkennhaaFrM
import Derived.Test.YtabckkepkennhaaFrE
namespace Go.Proofs.Ytabckkepkennhaa.Fs
open Go.RowKit Kt Gf Gk Fp Fa Fb Fc Fm Fe
open Nr (RowS Fl)
set_option linter.unusedVariables false
set_option linter.unusedSimpArgs false
set_option maxRecDepth 20000

theorem own_mono {w : World} {B B' e size n : Nat} {v : Value} {xs : List Value} (h : w.ownsRow B e size v n xs) (hB : B' ≤ B) : w.ownsRow B' e size v n xs := by
  refine ⟨h.1, ?_⟩
  rcases h.2 with h1 | ⟨g, cap, cur, e1, e2, e3⟩
  · exact .inl h1
  · exact .inr ⟨g, cap, cur, e1, by omega, e3⟩
theorem infoCa : (Try.prog.info? 45).map (·.size) = some 6 := by kernel_rfl
theorem load_ca {w : World} {b : Nat} {k q m s : Int} {att : ByteArray} {e : Value} {t : TypeId} (h : Bx w b (caV k q m s att e) t) : (loadVar 45 ⟨b, 0, none⟩).run Try.prog w = .ok (.agg (caV k q m s att e)) w := load_bx (P := Try.prog) h Try.underlying45 rfl infoCa
def stK (s : Ks) (k q m c : Int) (att : ByteArray) (e : Value) : Ks := { s with kind := k, queue := q, mx := m, secs := c, att := att, ent := e, busy := true, shs := .slice none 0 0, reps := .slice none 0 0, wants := s.wants || (decide (s.ep = 0) || ofSh k) }
/-- What Start leaves. -/
def StP (w : World) (B m : Nat) (a : As) (s : Ks) (k q mx c : Int) (att : ByteArray) (es : List En) (w' : World) : Prop :=
  ∃ a' c', w'.ownsRow w.heap.size 92 7 (.slice a' es.length c') es.length (Fl cE es) ∧ Tn w B (Xc (kl (stK s k q mx c att (.slice a' es.length c'))) a (.map (some m))) 57 w'
set_option maxHeartbeats 4000000 in
theorem Start_ok {w : World} {B m : Nat} {a : As} {s : Ks} (h : Bx w B (Xc (kl s) a (.map (some m))) 57) (hb : s.busy = false) (k q mx c : Int) (att : ByteArray) (ao : Option Addr) (cap : Nat) (es : List En) (he : RowS 7 cE w ao es) (hl : es.length ≤ 1000000000) (hm : mayB k q mx c es.length = true) :
    Calls Try.prog 8 #[.pointer (some ⟨B, 0, none⟩), .agg (caV k q mx c att (.slice ao es.length cap))] w fun x w' => x = .returned (.int .i64 0) ∧ StP w B m a s k q mx c att es w' := by
  obtain ⟨V, hV⟩ : ∃ V, V = w.alloc (.cells (caV k q mx c att (.slice ao es.length cap)) 45) := ⟨_, rfl⟩
  have hb1 : Below w.heap.size w V := by rw [hV]; exact (Below.refl _ w).alloc (Nat.le_refl _) _
  have hx1 : Bx V w.heap.size (caV k q mx c att (.slice ao es.length cap)) 45 := by rw [hV]; exact Bx.new _ _ _
  have h1 := h.bel hb1
  have c33 : V.cell? ⟨B, 33, none⟩ = some (.bool s.busy) := h1.cell 33 _ rfl
  rw [hb] at c33
  have HM := mkH (isMadeC_any h1)
  have HY := mkH (fun W => mayBe_any W k q mx c att ao es.length cap hl)
  rw [hm] at HY
  have HC := mkH (fun W (hW : Below w.heap.size w W) => cloneE_any W ao cap es (he.below hW) hl)
  have hne : w.heap.size ≠ B := Nat.ne_of_gt h.lt
  have HX1 := mkH hx1
  have H1 := mkH h1
  have HB1 := mkH hb1
  have HV := mkH hV
  clear h hb1 hx1 h1 hV he hm hb
  have HSH := mkH (fun W => isOfShards_any W k)
  by_cases hep : s.ep = 0
  · have hbe : (s.ep == 0) = true := by simpa using hep
    have hepH := mkH hep
    clear hep
    go_enter Try.func8, Try.ntmps8
    go_upto_region 1 with fail
    rw [show w.alloc (.cells (caV k q mx c att (.slice ao es.length cap)) 45) = V from HV.out.symm]
    go_wp2_with (first
      | (refine HM.out.mono ?_; rintro x w2 ⟨rfl, rfl⟩)
      | (refine Gk.wpList_ld (ty := 45) (x := .tmp 3) (p := ⟨w.heap.size, 0, none⟩) (v := .agg (caV k q mx c att (.slice ao es.length cap))) rfl rfl rfl (load_ca HX1.out) ?_)
      | (refine (HY.out _).mono ?_; rintro x w3 ⟨rfl, hb3⟩; have HX3 := mkH (HX1.out.bel hb3); have H3 := mkH (H1.out.bel hb3); have HB3 := mkH (HB1.out.trans (hb3.mono HB1.out.size)); have x5 : w3.cell? ⟨w.heap.size, 5, none⟩ = some (.slice ao es.length cap) := HX3.out.cell 5 _ rfl; clear hb3)
      | (refine (HC.out _ HB3.out).mono ?_; rintro x w4 ⟨a', c', rfl, ho4, hb4⟩; have HX4 := mkH (HX3.out.bel hb4); have H4 := mkH (H3.out.bel hb4); have HB4 := mkH (HB3.out.trans (hb4.mono HB3.out.size)); have HO4 := mkH ho4; have y5 : w4.cell? ⟨w.heap.size, 5, none⟩ = some (.slice ao es.length cap) := HX4.out.cell 5 _ rfl; have f5 := HX4.out.frozen 5; clear hb4 ho4 x5)
      | (refine Gk.wpList_ld (ty := 45) (x := .tmp 3) (p := ⟨w.heap.size, 0, none⟩) (v := .agg (caV k q mx c att (.slice a' es.length c'))) rfl rfl rfl (load_ca (Bx.setTo HX4.out 5 (.slice a' es.length c') rfl)) ?_)
      | (refine Fp.wpList_stp rfl (ty := 45) (x := .tmp 28) (y := .tmp 26) (cs := Xc (kl s) a (.map (some m))) (cs' := Xc (kl { s with kind := k, queue := q, mx := mx, secs := c, att := att, ent := .slice a' es.length c' }) a (.map (some m))) rfl 27 rfl rfl (H4.out.other (p := ⟨w.heap.size, 5, none⟩) hne _) infoCa (by simp [Xc, caV]) (by unfold caV; rw [List.all_toArray]; rfl) rfl ?_
         have HX5 := mkH (Bx.row (cs := Xc (kl { s with kind := k, queue := q, mx := mx, secs := c, att := att, ent := .slice a' es.length c' }) a (.map (some m))) (H4.out.other (p := ⟨w.heap.size, 5, none⟩) hne (.slice a' es.length c')))
         have HG5 := mkH (((HX4.out.frset 5 (.slice a' es.length c')).mono (G := fun x => x = B ∨ x = w.heap.size) (fun i hi => .inr hi)).trans ((Bx.frrow (b := B) (Xc (kl { s with kind := k, queue := q, mx := mx, secs := c, att := att, ent := .slice a' es.length c' }) a (.map (some m)))).mono (G := fun x => x = B ∨ x = w.heap.size) (fun i hi => .inl hi)) (fun i hi => .inl hi))
         have HO5 := mkH (own_mono (Nr.own_fr HO4.out HG5.out (fun k hk hq => by have h1 := (HO4.out.lt k hk).1; have h2 := HX3.out.lt; have h3 := H3.out.lt; rcases hq with hq | hq <;> omega)) HB3.out.size)
         have HNB : Hid (∀ k, (Value.slice a' es.length c').ownBlock = some k → k ≠ B) := mkH (fun k hk hq => by have h1 := (HO4.out.lt k hk).1; have h3 := H3.out.lt; omega)
         have HBX5 := mkH ((Bx.setTo HX4.out (cs' := caV k q mx c att (.slice a' es.length c')) 5 (.slice a' es.length c') rfl).rowOther (g := B) hne.symm (Xc (kl { s with kind := k, queue := q, mx := mx, secs := c, att := att, ent := .slice a' es.length c' }) a (.map (some m))))
         have HF5 := mkH (((Fr.ofBelow (F := fun x => x = B) HB4.out).trans (HX4.out.frset 5 (.slice a' es.length c')) (fun i hi => .inr (Nat.le_of_eq hi.symm))).trans (Bx.frrow (b := B) (Xc (kl { s with kind := k, queue := q, mx := mx, secs := c, att := att, ent := .slice a' es.length c' }) a (.map (some m)))) (fun i hi => .inl hi))
         generalize (w4.setCell ⟨w.heap.size, 5, none⟩ (.slice a' es.length c')).setRow B (Xc (kl { s with kind := k, queue := q, mx := mx, secs := c, att := att, ent := .slice a' es.length c' }) a (.map (some m))) = W5 at *
         have d33 : W5.cell? ⟨B, 33, none⟩ = some (.bool s.busy) := HX5.out.cell 33 _ rfl
         have g33 := HX5.out.frozen 33
         have HX6 := mkH (Bx.setTo HX5.out (cs' := Xc (kl { s with kind := k, queue := q, mx := mx, secs := c, att := att, ent := .slice a' es.length c', busy := true }) a (.map (some m))) 33 (.bool true) rfl)
         have d34 : (W5.setCell ⟨B, 33, none⟩ (.bool true)).cell? ⟨B, 34, none⟩ = some s.shs := HX6.out.cell 34 _ rfl
         have g34 := HX6.out.frozen 34
         have HX7 := mkH (Bx.setTo HX6.out (cs' := Xc (kl { s with kind := k, queue := q, mx := mx, secs := c, att := att, ent := .slice a' es.length c', busy := true, shs := .slice none 0 0 }) a (.map (some m))) 34 (.slice none 0 0) rfl)
         have d35 : ((W5.setCell ⟨B, 33, none⟩ (.bool true)).setCell ⟨B, 34, none⟩ (.slice none 0 0)).cell? ⟨B, 35, none⟩ = some s.reps := HX7.out.cell 35 _ rfl
         have g35 := HX7.out.frozen 35
         have HX8 := mkH (Bx.setTo HX7.out (cs' := Xc (kl { s with kind := k, queue := q, mx := mx, secs := c, att := att, ent := .slice a' es.length c', busy := true, shs := .slice none 0 0, reps := .slice none 0 0 }) a (.map (some m))) 35 (.slice none 0 0) rfl)
         have e36 : (((W5.setCell ⟨B, 33, none⟩ (.bool true)).setCell ⟨B, 34, none⟩ (.slice none 0 0)).setCell ⟨B, 35, none⟩ (.slice none 0 0)).cell? ⟨B, 36, none⟩ = some (.int .i64 s.ep) := HX8.out.cell 36 _ rfl
         have x0 : (((W5.setCell ⟨B, 33, none⟩ (.bool true)).setCell ⟨B, 34, none⟩ (.slice none 0 0)).setCell ⟨B, 35, none⟩ (.slice none 0 0)).cell? ⟨w.heap.size, 0, none⟩ = some (.int .i64 k) := (((HBX5.out.other (p := ⟨B, 33, none⟩) hne.symm (.bool true)).other (p := ⟨B, 34, none⟩) hne.symm (.slice none 0 0)).other (p := ⟨B, 35, none⟩) hne.symm (.slice none 0 0)).cell 0 _ rfl
         have e38 : (((W5.setCell ⟨B, 33, none⟩ (.bool true)).setCell ⟨B, 34, none⟩ (.slice none 0 0)).setCell ⟨B, 35, none⟩ (.slice none 0 0)).cell? ⟨B, 38, none⟩ = some (.bool s.wants) := HX8.out.cell 38 _ rfl
         have g38 := HX8.out.frozen 38
         clear HX3 H3 HB3 HX1 H1 HB1 HV HM HY HC HX4 H4 y5 f5 hne c33 HG5
         have HS9 := mkH (HSH.out (((W5.setCell ⟨B, 33, none⟩ (.bool true)).setCell ⟨B, 34, none⟩ (.slice none 0 0)).setCell ⟨B, 35, none⟩ (.slice none 0 0)))
         clear HSH
         go_wp2_with (refine HS9.out.mono ?_; rintro x w6 ⟨rfl, rfl⟩)))
    go_ret
    have hst : stK s k q mx c att (.slice a' es.length c') = { s with kind := k, queue := q, mx := mx, secs := c, att := att, ent := .slice a' es.length c', busy := true, shs := .slice none 0 0, reps := .slice none 0 0, wants := true } := by
      unfold stK
      rw [decide_eq_true hepH.out, Bool.true_or, Bool.or_true]
    have hz := Bx.setTo HX8.out (cs' := Xc (kl ({ s with kind := k, queue := q, mx := mx, secs := c, att := att, ent := .slice a' es.length c', busy := true, shs := .slice none 0 0, reps := .slice none 0 0, wants := true })) a (.map (some m))) 38 (.bool true) rfl
    rw [← hst] at hz
    have o1 := Nr.own_fr HO5.out (HX5.out.frset 33 (.bool true)) HNB.out
    have o2 := Nr.own_fr o1 (HX6.out.frset 34 (.slice none 0 0)) HNB.out
    have o3 := Nr.own_fr o2 (HX7.out.frset 35 (.slice none 0 0)) HNB.out
    have o4 := Nr.own_fr o3 (HX8.out.frset 38 (.bool true)) HNB.out
    have hfr := (((HF5.out.trans (HX5.out.frset 33 (.bool true)) (fun i hi => .inl hi)).trans (HX6.out.frset 34 (.slice none 0 0)) (fun i hi => .inl hi)).trans (HX7.out.frset 35 (.slice none 0 0)) (fun i hi => .inl hi)).trans (HX8.out.frset 38 (.bool true)) (fun i hi => .inl hi)
    exact ⟨rfl, a', c', o4, hz, hfr⟩
  · have hbe : (s.ep == 0) = false := by simpa using hep
    have hepH := mkH hep
    clear hep
    cases hof : ofSh k
    · have hofH := mkH hof
      rw [hof] at HSH
      clear hof
      go_enter Try.func8, Try.ntmps8
      go_upto_region 1 with fail
      rw [show w.alloc (.cells (caV k q mx c att (.slice ao es.length cap)) 45) = V from HV.out.symm]
      go_wp2_with (first
        | (refine HM.out.mono ?_; rintro x w2 ⟨rfl, rfl⟩)
        | (refine Gk.wpList_ld (ty := 45) (x := .tmp 3) (p := ⟨w.heap.size, 0, none⟩) (v := .agg (caV k q mx c att (.slice ao es.length cap))) rfl rfl rfl (load_ca HX1.out) ?_)
        | (refine (HY.out _).mono ?_; rintro x w3 ⟨rfl, hb3⟩; have HX3 := mkH (HX1.out.bel hb3); have H3 := mkH (H1.out.bel hb3); have HB3 := mkH (HB1.out.trans (hb3.mono HB1.out.size)); have x5 : w3.cell? ⟨w.heap.size, 5, none⟩ = some (.slice ao es.length cap) := HX3.out.cell 5 _ rfl; clear hb3)
        | (refine (HC.out _ HB3.out).mono ?_; rintro x w4 ⟨a', c', rfl, ho4, hb4⟩; have HX4 := mkH (HX3.out.bel hb4); have H4 := mkH (H3.out.bel hb4); have HB4 := mkH (HB3.out.trans (hb4.mono HB3.out.size)); have HO4 := mkH ho4; have y5 : w4.cell? ⟨w.heap.size, 5, none⟩ = some (.slice ao es.length cap) := HX4.out.cell 5 _ rfl; have f5 := HX4.out.frozen 5; clear hb4 ho4 x5)
        | (refine Gk.wpList_ld (ty := 45) (x := .tmp 3) (p := ⟨w.heap.size, 0, none⟩) (v := .agg (caV k q mx c att (.slice a' es.length c'))) rfl rfl rfl (load_ca (Bx.setTo HX4.out 5 (.slice a' es.length c') rfl)) ?_)
        | (refine Fp.wpList_stp rfl (ty := 45) (x := .tmp 28) (y := .tmp 26) (cs := Xc (kl s) a (.map (some m))) (cs' := Xc (kl { s with kind := k, queue := q, mx := mx, secs := c, att := att, ent := .slice a' es.length c' }) a (.map (some m))) rfl 27 rfl rfl (H4.out.other (p := ⟨w.heap.size, 5, none⟩) hne _) infoCa (by simp [Xc, caV]) (by unfold caV; rw [List.all_toArray]; rfl) rfl ?_
           have HX5 := mkH (Bx.row (cs := Xc (kl { s with kind := k, queue := q, mx := mx, secs := c, att := att, ent := .slice a' es.length c' }) a (.map (some m))) (H4.out.other (p := ⟨w.heap.size, 5, none⟩) hne (.slice a' es.length c')))
           have HG5 := mkH (((HX4.out.frset 5 (.slice a' es.length c')).mono (G := fun x => x = B ∨ x = w.heap.size) (fun i hi => .inr hi)).trans ((Bx.frrow (b := B) (Xc (kl { s with kind := k, queue := q, mx := mx, secs := c, att := att, ent := .slice a' es.length c' }) a (.map (some m)))).mono (G := fun x => x = B ∨ x = w.heap.size) (fun i hi => .inl hi)) (fun i hi => .inl hi))
           have HO5 := mkH (own_mono (Nr.own_fr HO4.out HG5.out (fun k hk hq => by have h1 := (HO4.out.lt k hk).1; have h2 := HX3.out.lt; have h3 := H3.out.lt; rcases hq with hq | hq <;> omega)) HB3.out.size)
           have HNB : Hid (∀ k, (Value.slice a' es.length c').ownBlock = some k → k ≠ B) := mkH (fun k hk hq => by have h1 := (HO4.out.lt k hk).1; have h3 := H3.out.lt; omega)
           have HBX5 := mkH ((Bx.setTo HX4.out (cs' := caV k q mx c att (.slice a' es.length c')) 5 (.slice a' es.length c') rfl).rowOther (g := B) hne.symm (Xc (kl { s with kind := k, queue := q, mx := mx, secs := c, att := att, ent := .slice a' es.length c' }) a (.map (some m))))
           have HF5 := mkH (((Fr.ofBelow (F := fun x => x = B) HB4.out).trans (HX4.out.frset 5 (.slice a' es.length c')) (fun i hi => .inr (Nat.le_of_eq hi.symm))).trans (Bx.frrow (b := B) (Xc (kl { s with kind := k, queue := q, mx := mx, secs := c, att := att, ent := .slice a' es.length c' }) a (.map (some m)))) (fun i hi => .inl hi))
           generalize (w4.setCell ⟨w.heap.size, 5, none⟩ (.slice a' es.length c')).setRow B (Xc (kl { s with kind := k, queue := q, mx := mx, secs := c, att := att, ent := .slice a' es.length c' }) a (.map (some m))) = W5 at *
           have d33 : W5.cell? ⟨B, 33, none⟩ = some (.bool s.busy) := HX5.out.cell 33 _ rfl
           have g33 := HX5.out.frozen 33
           have HX6 := mkH (Bx.setTo HX5.out (cs' := Xc (kl { s with kind := k, queue := q, mx := mx, secs := c, att := att, ent := .slice a' es.length c', busy := true }) a (.map (some m))) 33 (.bool true) rfl)
           have d34 : (W5.setCell ⟨B, 33, none⟩ (.bool true)).cell? ⟨B, 34, none⟩ = some s.shs := HX6.out.cell 34 _ rfl
           have g34 := HX6.out.frozen 34
           have HX7 := mkH (Bx.setTo HX6.out (cs' := Xc (kl { s with kind := k, queue := q, mx := mx, secs := c, att := att, ent := .slice a' es.length c', busy := true, shs := .slice none 0 0 }) a (.map (some m))) 34 (.slice none 0 0) rfl)
           have d35 : ((W5.setCell ⟨B, 33, none⟩ (.bool true)).setCell ⟨B, 34, none⟩ (.slice none 0 0)).cell? ⟨B, 35, none⟩ = some s.reps := HX7.out.cell 35 _ rfl
           have g35 := HX7.out.frozen 35
           have HX8 := mkH (Bx.setTo HX7.out (cs' := Xc (kl { s with kind := k, queue := q, mx := mx, secs := c, att := att, ent := .slice a' es.length c', busy := true, shs := .slice none 0 0, reps := .slice none 0 0 }) a (.map (some m))) 35 (.slice none 0 0) rfl)
           have e36 : (((W5.setCell ⟨B, 33, none⟩ (.bool true)).setCell ⟨B, 34, none⟩ (.slice none 0 0)).setCell ⟨B, 35, none⟩ (.slice none 0 0)).cell? ⟨B, 36, none⟩ = some (.int .i64 s.ep) := HX8.out.cell 36 _ rfl
           have x0 : (((W5.setCell ⟨B, 33, none⟩ (.bool true)).setCell ⟨B, 34, none⟩ (.slice none 0 0)).setCell ⟨B, 35, none⟩ (.slice none 0 0)).cell? ⟨w.heap.size, 0, none⟩ = some (.int .i64 k) := (((HBX5.out.other (p := ⟨B, 33, none⟩) hne.symm (.bool true)).other (p := ⟨B, 34, none⟩) hne.symm (.slice none 0 0)).other (p := ⟨B, 35, none⟩) hne.symm (.slice none 0 0)).cell 0 _ rfl
           have e38 : (((W5.setCell ⟨B, 33, none⟩ (.bool true)).setCell ⟨B, 34, none⟩ (.slice none 0 0)).setCell ⟨B, 35, none⟩ (.slice none 0 0)).cell? ⟨B, 38, none⟩ = some (.bool s.wants) := HX8.out.cell 38 _ rfl
           have g38 := HX8.out.frozen 38
           clear HX3 H3 HB3 HX1 H1 HB1 HV HM HY HC HX4 H4 y5 f5 hne c33 HG5
           have HS9 := mkH (HSH.out (((W5.setCell ⟨B, 33, none⟩ (.bool true)).setCell ⟨B, 34, none⟩ (.slice none 0 0)).setCell ⟨B, 35, none⟩ (.slice none 0 0)))
           clear HSH
           go_wp2_with (refine HS9.out.mono ?_; rintro x w6 ⟨rfl, rfl⟩)))
      go_ret
      have hst : stK s k q mx c att (.slice a' es.length c') = { s with kind := k, queue := q, mx := mx, secs := c, att := att, ent := .slice a' es.length c', busy := true, shs := .slice none 0 0, reps := .slice none 0 0 } := by
        unfold stK
        rw [decide_eq_false hepH.out, hofH.out, Bool.or_false, Bool.or_false]
      have hz := HX8.out
      rw [← hst] at hz
      have o1 := Nr.own_fr HO5.out (HX5.out.frset 33 (.bool true)) HNB.out
      have o2 := Nr.own_fr o1 (HX6.out.frset 34 (.slice none 0 0)) HNB.out
      have o3 := Nr.own_fr o2 (HX7.out.frset 35 (.slice none 0 0)) HNB.out
      have hfr := ((HF5.out.trans (HX5.out.frset 33 (.bool true)) (fun i hi => .inl hi)).trans (HX6.out.frset 34 (.slice none 0 0)) (fun i hi => .inl hi)).trans (HX7.out.frset 35 (.slice none 0 0)) (fun i hi => .inl hi)
      exact ⟨rfl, a', c', o3, hz, hfr⟩
    · have hofH := mkH hof
      rw [hof] at HSH
      clear hof
      go_enter Try.func8, Try.ntmps8
      go_upto_region 1 with fail
      rw [show w.alloc (.cells (caV k q mx c att (.slice ao es.length cap)) 45) = V from HV.out.symm]
      go_wp2_with (first
        | (refine HM.out.mono ?_; rintro x w2 ⟨rfl, rfl⟩)
        | (refine Gk.wpList_ld (ty := 45) (x := .tmp 3) (p := ⟨w.heap.size, 0, none⟩) (v := .agg (caV k q mx c att (.slice ao es.length cap))) rfl rfl rfl (load_ca HX1.out) ?_)
        | (refine (HY.out _).mono ?_; rintro x w3 ⟨rfl, hb3⟩; have HX3 := mkH (HX1.out.bel hb3); have H3 := mkH (H1.out.bel hb3); have HB3 := mkH (HB1.out.trans (hb3.mono HB1.out.size)); have x5 : w3.cell? ⟨w.heap.size, 5, none⟩ = some (.slice ao es.length cap) := HX3.out.cell 5 _ rfl; clear hb3)
        | (refine (HC.out _ HB3.out).mono ?_; rintro x w4 ⟨a', c', rfl, ho4, hb4⟩; have HX4 := mkH (HX3.out.bel hb4); have H4 := mkH (H3.out.bel hb4); have HB4 := mkH (HB3.out.trans (hb4.mono HB3.out.size)); have HO4 := mkH ho4; have y5 : w4.cell? ⟨w.heap.size, 5, none⟩ = some (.slice ao es.length cap) := HX4.out.cell 5 _ rfl; have f5 := HX4.out.frozen 5; clear hb4 ho4 x5)
        | (refine Gk.wpList_ld (ty := 45) (x := .tmp 3) (p := ⟨w.heap.size, 0, none⟩) (v := .agg (caV k q mx c att (.slice a' es.length c'))) rfl rfl rfl (load_ca (Bx.setTo HX4.out 5 (.slice a' es.length c') rfl)) ?_)
        | (refine Fp.wpList_stp rfl (ty := 45) (x := .tmp 28) (y := .tmp 26) (cs := Xc (kl s) a (.map (some m))) (cs' := Xc (kl { s with kind := k, queue := q, mx := mx, secs := c, att := att, ent := .slice a' es.length c' }) a (.map (some m))) rfl 27 rfl rfl (H4.out.other (p := ⟨w.heap.size, 5, none⟩) hne _) infoCa (by simp [Xc, caV]) (by unfold caV; rw [List.all_toArray]; rfl) rfl ?_
           have HX5 := mkH (Bx.row (cs := Xc (kl { s with kind := k, queue := q, mx := mx, secs := c, att := att, ent := .slice a' es.length c' }) a (.map (some m))) (H4.out.other (p := ⟨w.heap.size, 5, none⟩) hne (.slice a' es.length c')))
           have HG5 := mkH (((HX4.out.frset 5 (.slice a' es.length c')).mono (G := fun x => x = B ∨ x = w.heap.size) (fun i hi => .inr hi)).trans ((Bx.frrow (b := B) (Xc (kl { s with kind := k, queue := q, mx := mx, secs := c, att := att, ent := .slice a' es.length c' }) a (.map (some m)))).mono (G := fun x => x = B ∨ x = w.heap.size) (fun i hi => .inl hi)) (fun i hi => .inl hi))
           have HO5 := mkH (own_mono (Nr.own_fr HO4.out HG5.out (fun k hk hq => by have h1 := (HO4.out.lt k hk).1; have h2 := HX3.out.lt; have h3 := H3.out.lt; rcases hq with hq | hq <;> omega)) HB3.out.size)
           have HNB : Hid (∀ k, (Value.slice a' es.length c').ownBlock = some k → k ≠ B) := mkH (fun k hk hq => by have h1 := (HO4.out.lt k hk).1; have h3 := H3.out.lt; omega)
           have HBX5 := mkH ((Bx.setTo HX4.out (cs' := caV k q mx c att (.slice a' es.length c')) 5 (.slice a' es.length c') rfl).rowOther (g := B) hne.symm (Xc (kl { s with kind := k, queue := q, mx := mx, secs := c, att := att, ent := .slice a' es.length c' }) a (.map (some m))))
           have HF5 := mkH (((Fr.ofBelow (F := fun x => x = B) HB4.out).trans (HX4.out.frset 5 (.slice a' es.length c')) (fun i hi => .inr (Nat.le_of_eq hi.symm))).trans (Bx.frrow (b := B) (Xc (kl { s with kind := k, queue := q, mx := mx, secs := c, att := att, ent := .slice a' es.length c' }) a (.map (some m)))) (fun i hi => .inl hi))
           generalize (w4.setCell ⟨w.heap.size, 5, none⟩ (.slice a' es.length c')).setRow B (Xc (kl { s with kind := k, queue := q, mx := mx, secs := c, att := att, ent := .slice a' es.length c' }) a (.map (some m))) = W5 at *
           have d33 : W5.cell? ⟨B, 33, none⟩ = some (.bool s.busy) := HX5.out.cell 33 _ rfl
           have g33 := HX5.out.frozen 33
           have HX6 := mkH (Bx.setTo HX5.out (cs' := Xc (kl { s with kind := k, queue := q, mx := mx, secs := c, att := att, ent := .slice a' es.length c', busy := true }) a (.map (some m))) 33 (.bool true) rfl)
           have d34 : (W5.setCell ⟨B, 33, none⟩ (.bool true)).cell? ⟨B, 34, none⟩ = some s.shs := HX6.out.cell 34 _ rfl
           have g34 := HX6.out.frozen 34
           have HX7 := mkH (Bx.setTo HX6.out (cs' := Xc (kl { s with kind := k, queue := q, mx := mx, secs := c, att := att, ent := .slice a' es.length c', busy := true, shs := .slice none 0 0 }) a (.map (some m))) 34 (.slice none 0 0) rfl)
           have d35 : ((W5.setCell ⟨B, 33, none⟩ (.bool true)).setCell ⟨B, 34, none⟩ (.slice none 0 0)).cell? ⟨B, 35, none⟩ = some s.reps := HX7.out.cell 35 _ rfl
           have g35 := HX7.out.frozen 35
           have HX8 := mkH (Bx.setTo HX7.out (cs' := Xc (kl { s with kind := k, queue := q, mx := mx, secs := c, att := att, ent := .slice a' es.length c', busy := true, shs := .slice none 0 0, reps := .slice none 0 0 }) a (.map (some m))) 35 (.slice none 0 0) rfl)
           have e36 : (((W5.setCell ⟨B, 33, none⟩ (.bool true)).setCell ⟨B, 34, none⟩ (.slice none 0 0)).setCell ⟨B, 35, none⟩ (.slice none 0 0)).cell? ⟨B, 36, none⟩ = some (.int .i64 s.ep) := HX8.out.cell 36 _ rfl
           have x0 : (((W5.setCell ⟨B, 33, none⟩ (.bool true)).setCell ⟨B, 34, none⟩ (.slice none 0 0)).setCell ⟨B, 35, none⟩ (.slice none 0 0)).cell? ⟨w.heap.size, 0, none⟩ = some (.int .i64 k) := (((HBX5.out.other (p := ⟨B, 33, none⟩) hne.symm (.bool true)).other (p := ⟨B, 34, none⟩) hne.symm (.slice none 0 0)).other (p := ⟨B, 35, none⟩) hne.symm (.slice none 0 0)).cell 0 _ rfl
           have e38 : (((W5.setCell ⟨B, 33, none⟩ (.bool true)).setCell ⟨B, 34, none⟩ (.slice none 0 0)).setCell ⟨B, 35, none⟩ (.slice none 0 0)).cell? ⟨B, 38, none⟩ = some (.bool s.wants) := HX8.out.cell 38 _ rfl
           have g38 := HX8.out.frozen 38
           clear HX3 H3 HB3 HX1 H1 HB1 HV HM HY HC HX4 H4 y5 f5 hne c33 HG5
           have HS9 := mkH (HSH.out (((W5.setCell ⟨B, 33, none⟩ (.bool true)).setCell ⟨B, 34, none⟩ (.slice none 0 0)).setCell ⟨B, 35, none⟩ (.slice none 0 0)))
           clear HSH
           go_wp2_with (refine HS9.out.mono ?_; rintro x w6 ⟨rfl, rfl⟩)))
      go_ret
      have hst : stK s k q mx c att (.slice a' es.length c') = { s with kind := k, queue := q, mx := mx, secs := c, att := att, ent := .slice a' es.length c', busy := true, shs := .slice none 0 0, reps := .slice none 0 0, wants := true } := by
        unfold stK
        rw [hofH.out, Bool.or_true, Bool.or_true]
      have hz := Bx.setTo HX8.out (cs' := Xc (kl ({ s with kind := k, queue := q, mx := mx, secs := c, att := att, ent := .slice a' es.length c', busy := true, shs := .slice none 0 0, reps := .slice none 0 0, wants := true })) a (.map (some m))) 38 (.bool true) rfl
      rw [← hst] at hz
      have o1 := Nr.own_fr HO5.out (HX5.out.frset 33 (.bool true)) HNB.out
      have o2 := Nr.own_fr o1 (HX6.out.frset 34 (.slice none 0 0)) HNB.out
      have o3 := Nr.own_fr o2 (HX7.out.frset 35 (.slice none 0 0)) HNB.out
      have o4 := Nr.own_fr o3 (HX8.out.frset 38 (.bool true)) HNB.out
      have hfr := (((HF5.out.trans (HX5.out.frset 33 (.bool true)) (fun i hi => .inl hi)).trans (HX6.out.frset 34 (.slice none 0 0)) (fun i hi => .inl hi)).trans (HX7.out.frset 35 (.slice none 0 0)) (fun i hi => .inl hi)).trans (HX8.out.frset 38 (.bool true)) (fun i hi => .inl hi)
      exact ⟨rfl, a', c', o4, hz, hfr⟩
end Go.Proofs.Ytabckkepkennhaa.Fs
