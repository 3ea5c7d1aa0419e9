/-
  An asker inside of a client: Recv of an answer without lists, and of what is none.
-/
import Derived.Test.YtabckkepkennhaaFrO
namespace Go.Proofs.Ytabckkepkennhaa.Fv
open Go.RowKit Kt Gf Gk Fp Fa Fb Fr1 Fo
open Go.Proofs.Ytabckkepkennhaa.Nm (Mc)
set_option linter.unusedVariables false
set_option linter.unusedSimpArgs false
set_option maxRecDepth 20000

theorem Pv.rep {pv : Array Value} {kd tt g cl nu er sq n ce : Int} {cp : Value} (hp : Pv pv kd tt g cl nu er sq n (.slice none 0 0) (.slice none 0 0) (.slice none 0 0) ce cp) : ∀ j v, (Rz er sq n).toList[j]? = some v → pv[31 + j]? = some v := by
  intro j v hv
  rcases j with _ | _ | _ | _ | _ | _ | j
  · exact hp.p31.trans hv
  · exact hp.p32.trans hv
  · exact hp.p33.trans hv
  · exact hp.p34.trans hv
  · exact hp.p35.trans hv
  · exact hp.p36.trans hv
  · simp [Rz] at hv
set_option maxHeartbeats 2000000 in
theorem Recv_ans {w : World} {B m : Nat} {a : As} {k : Kl} (h : Bx w B (Xc k a (.map (some m))) 57) (ha : a.asks = true) (hid : 1 ≤ a.id ∧ a.id ≤ 1099511627776) {pv : Array Value} {kd tt g cl nu er sq n ce : Int} {cp : Value} (hp : Pv pv kd tt g cl nu er sq n (.slice none 0 0) (.slice none 0 0) (.slice none 0 0) ce cp) (hb : ansB a kd tt g cl nu = true) (he : er ≠ 15) :
    Calls Try.prog 14 #[.pointer (some ⟨B, 0, none⟩), .agg pv] w fun x w' => x = .returned (.tuple #[.agg (Rz er sq n), .bool true]) ∧ Tn w B (Xc k { a with asks := false } (.map (some m))) 57 w' := by
  obtain ⟨V, hV⟩ : ∃ V, V = (w.alloc (.cells pv 42)).alloc (.cells (Rz 0 0 0) 37) := ⟨_, rfl⟩
  have hb1 : Below w.heap.size w V := by rw [hV]; exact ((Below.refl _ w).alloc (Nat.le_refl _) _).alloc (by simp) _
  have hx1 : Bx V w.heap.size pv 42 := by rw [hV]; exact (Bx.new _ _ _).alloc _
  have hx2 : Bx V (w.heap.size + 1) (Rz 0 0 0) 37 := by rw [hV]; exact Bx.new1 _ _ _ _
  have h1 := h.bel hb1
  have HBU := mkH (Busy_any h1)
  rw [ha] at HBU
  have HAN := mkH (isAnswered_any h1 hid hp)
  rw [hb] at HAN
  have hne : B ≠ w.heap.size + 1 := Nat.ne_of_lt (Nat.lt_succ_of_lt h.lt)
  have HL := mkH h.lt
  have H1 := mkH h1
  have HX1 := mkH hx1
  have HX2 := mkH hx2
  have HB := mkH hb1
  have HP := mkH hp
  have HE : Hid (er ≠ 15) := mkH he
  have HV := mkH hV
  have hee : (er == 15) = false := by simpa using he
  clear h hb1 hx1 hx2 h1 hp hb he hV ha
  go_enter Try.func14, Try.ntmps14
  go_upto_region 1 with fail
  change Code.wp _ _ _ _ ((w.alloc (.cells pv 42)).alloc (.cells (Rz 0 0 0) 37))
  rw [show (w.alloc (.cells pv 42)).alloc (.cells (Rz 0 0 0) 37) = V from HV.out.symm]
  go_wp2_with (first
    | (refine HBU.out.mono ?_; rintro x w2 ⟨rfl, rfl⟩)
    | (refine Fp.wpList_ldw (ty := 42) (x := .tmp 3) (p := ⟨w.heap.size, 0, none⟩) (v := .agg pv) (by rfl) rfl rfl (load_pk HX1.out HP.out.sz) ?_)
    | (refine HAN.out.mono ?_; rintro x w3 ⟨rfl, hb3⟩; have HX31 := mkH (HX1.out.bel hb3); have HX32 := mkH (HX2.out.bel hb3); have H3 := mkH (H1.out.bel hb3); have HB3 := mkH (HB.out.trans (hb3.mono HB.out.size)); have c31 : w3.cell? ⟨w.heap.size, 31, none⟩ = some (.int .i64 er) := HX31.out.cell 31 _ HP.out.p31; have c23 : w3.cell? ⟨B, 23, none⟩ = some (.bool a.asks) := H3.out.cell 23 _ rfl; have f23 := H3.out.frozen 23; clear hb3)
    | (refine Gk.wpList_ld (ty := 37) (x := .tmp 29) (p := ⟨w.heap.size, 31, none⟩) (v := .agg (Rz er sq n)) rfl rfl rfl (load_part (P := Try.prog) (HX31.out.other (p := ⟨B, 23, none⟩) (Nat.ne_of_lt HL.out) _) Try.underlying37 rfl 31 (Rz er sq n) infoRp (Pv.rep HP.out)) ?_)
    | (refine (ownReply_nil _ er sq n).mono ?_; rintro x w7 ⟨rfl, hb7⟩; have HX7 := mkH ((HX32.out.other (p := ⟨B, 23, none⟩) hne (.bool false)).bel hb7); have H7 := mkH ((Bx.setTo H3.out (cs' := Xc k { a with asks := false } (.map (some m))) 23 (.bool false) rfl).bel hb7); have HF7 := mkH (((Fr.ofBelow (F := fun q => q = B) HB3.out).trans (H3.out.frset 23 (.bool false)) (fun i hi => .inl hi)).trans (Fr.ofBelow hb7) (fun i hi => .inl hi)); clear hb7)
    | (refine Gk.wpList_st rfl (ty := 37) (x := .tmp 4) (y := .tmp 31) (cs := Rz er sq n) (old := Rz 0 0 0) rfl rfl rfl HX7.out infoRp rfl (Rz_one er sq n) ?_))
  have hz := HX7.out.row (cs := Rz er sq n)
  refine bodyPost_ret (Gk.res_ct rfl _ _ _ rfl rfl (load_rz hz)) rfl ?_
  exact ⟨rfl, H7.out.rowOther hne.symm _, HF7.out.trans (Bx.frrow _) (fun i hi => .inr (by subst hi; omega))⟩
end Go.Proofs.Ytabckkepkennhaa.Fv
