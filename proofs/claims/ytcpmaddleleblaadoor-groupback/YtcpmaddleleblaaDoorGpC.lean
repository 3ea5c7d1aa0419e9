/-
  enter, Send.
-/
import Derived.Test.YtcpmaddleleblaaDoorGpB
import Derived.Test.YtcpmaddleleblaaDoorDgI
namespace Go.Proofs.YtcpmaddleleblaaDoor.Gc
open Go.RowKit Kt Gf Gp Gr Gk Ga Gs Gb
set_option linter.unusedVariables false
set_option linter.unusedSimpArgs false
set_option maxRecDepth 20000

set_option maxHeartbeats 2000000 in
theorem enter_any (w : World) (B O : Nat) (nx : Int) (kp : List K) (ka : Option Addr) (kc : Nat) (msl asl : Value) (now frm : Int) (body : ByteArray)
    (hB : Bx w O #[.int .i64 nx, .slice ka kp.length kc, msl, asl] 25) (hO : w.ownsRow B 61 6 (.slice ka kp.length kc) kp.length (Fk kp)) (hBw : B ≤ w.heap.size) (hl : kp.length ≤ 1000000000) (hn : Sm nx) (kq : List K) (hkq : kp ++ [(⟨nx, now, 0, 0, frm, body⟩ : K)] = kq) :
    Calls Tryd.prog 61 #[.pointer (some ⟨O, 0, none⟩), .int .i64 now, .int .i64 frm, .string body] w fun e w' => e = .returned (.int .i64 nx) ∧ ∃ ka' kc', Bx w' O #[.int .i64 (nx + 1), .slice ka' kq.length kc', msl, asl] 25 ∧
      w'.ownsRow B 61 6 (.slice ka' kq.length kc') kq.length (Fk kq) ∧ Fr (fun k => k = O ∨ (Value.slice ka kp.length kc).ownBlock = some k) w w' := by
  obtain ⟨d0, d1, d2, d3, f0, f1, f2, f3⟩ := hB.four
  have hlt := hB.lt
  have hb1 : -9223372036854775808 ≤ nx + 1 := by unfold Sm at hn; omega
  have hb2 : nx + 1 ≤ 9223372036854775807 := by unfold Sm at hn; omega
  have hnewO : ¬ O = w.heap.size := by omega
  have hal : Below w.heap.size w (w.alloc (.cells #[.int .i64 nx, .int .i64 now, .int .i64 0, .int .i64 0, .int .i64 frm, .string body] 61)) := (Below.refl _ w).alloc (Nat.le_refl _) _
  have HS := mkH (newK w ⟨nx, now, 0, 0, frm, body⟩ 61)
  simp only [kC] at HS
  have HO := mkH (own_below hO hal)
  have HB := mkH (hB.bel hal)
  have HF := mkH (Fr.ofBelow (F := fun k => k = O ∨ (Value.slice ka kp.length kc).ownBlock = some k) hal)
  have HNE := mkH (fun k (hk : (Value.slice ka kp.length kc).ownBlock = some k) => own_ne hO hB hk (by decide))
  have HLT := mkH (fun k (hk : (Value.slice ka kp.length kc).ownBlock = some k) => (hO.lt k hk).2)
  have HSZ : Hid ((w.alloc (.cells #[.int .i64 nx, .int .i64 now, .int .i64 0, .int .i64 0, .int .i64 frm, .string body] 61)).heap.size = w.heap.size + 1) := by unfold Hid; simp
  have HKQ := mkH hkq
  clear hB hO hal hn hkq
  go_enter Tryd.func61, Tryd.ntmps61
  go_wp2_with (at_builtin; refine (wpList_append_own_src _ rfl (.tmp 18) (.tmp 24) 22 22 rfl B 61 _ 6 56 Tryd.underlying22 infoK rfl (by decide) _ kp.length (Fk kp) rfl HO.out _ 1 (Fk [⟨nx, now, 0, 0, frm, body⟩]) rfl HS.out ?h63 ?hby ?hbs ?_))
  case h63 => unfold maxLen; omega
  case hby => omega
  case hbs => have := HSZ.out; omega
  intro v2 w2 hown hgr
  rw [show Fk kp ++ Fk [⟨nx, now, 0, 0, frm, body⟩] = Fk (kp ++ [⟨nx, now, 0, 0, frm, body⟩]) from (Fl_append _ _).symm] at hown
  have hln : kp.length + 1 = kq.length := by rw [← HKQ.out]; simp
  rw [hln, HKQ.out] at hown
  obtain ⟨ka2, kc2, rfl⟩ := own_form hown
  have hf := fr_grown hgr
  have hB2 := HB.out.fr hf (fun hk => HNE.out O hk rfl)
  obtain ⟨d0, d1, d2, d3, f0, f1, f2, f3⟩ := hB2.four
  have HB2 := mkH hB2
  have HO2 := mkH hown
  have HNE2 := mkH (fun k (hk : (Value.slice ka2 kq.length kc2).ownBlock = some k) => own_ne hown hB2 hk (by decide))
  have HF2 := mkH (HF.out.trans hf (fun k hk => .inl (.inr hk)))
  clear hB2 hown hf hgr HB HO HF HS hln
  go_wp2
  go_ret
  have hB3 := HB2.out.s1 (.slice ka2 kq.length kc2)
  have hF3 := HB2.out.frset 1 (.slice ka2 kq.length kc2)
  have hO3 := own_fr HO2.out hF3 (fun k hk hk2 => HNE2.out k hk hk2)
  have hB4 := hB3.s0 (.int .i64 (nx + 1))
  have hF4 := hB3.frset 0 (.int .i64 (nx + 1))
  have hO4 := own_fr hO3 hF4 (fun k hk hk2 => HNE2.out k hk hk2)
  exact ⟨rfl, ka2, kc2, hB4, hO4, (HF2.out.trans hF3 (fun k hk => .inl (.inl hk))).trans hF4 (fun k hk => .inl (.inl hk))⟩
end Go.Proofs.YtcpmaddleleblaaDoor.Gc
