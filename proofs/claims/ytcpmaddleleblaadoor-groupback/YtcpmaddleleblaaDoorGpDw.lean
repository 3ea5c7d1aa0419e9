/-
  Dump's writer: add, nums, text, where nothing goes wrong.
-/
import Derived.Test.YtcpmaddleleblaaDoorGpDp
import Derived.Test.YtcpmaddleleblaaDoorGpSt
import Derived.Test.YtcpmaddleleblaaDoorWrites
import Derived.Test.YtcpmaddleleblaaDoorGpV
namespace Go.Proofs.YtcpmaddleleblaaDoor.Gdw
open Go.RowKit Kt Gf Gp Gr Gk Ga Gs Gb Gst Pl Wr Gdp
set_option linter.unusedVariables false
set_option linter.unusedSimpArgs false
set_option maxRecDepth 20000

/-- Block B is a writer that has these bytes, and no error. -/
structure Wt (b0 : Nat) (W : World) (B : Nat) (bs : List UInt8) (ba : Option Addr) (bc : Nat) : Prop where
  b : Bx W B #[.slice ba bs.length bc, .int .i64 0] 78
  o : W.ownsRow b0 5 1 (.slice ba bs.length bc) bs.length (U bs)
theorem Wt.below {b0 : Nat} {W W' : World} {B : Nat} {bs : List UInt8} {ba : Option Addr} {bc : Nat} (h : Wt b0 W B bs ba bc) (hb : Below W.heap.size W W') : Wt b0 W' B bs ba bc := ⟨h.b.bel hb, own_below h.o hb⟩
/-- What a writer may turn: its own block, and its row. -/
def Wq (B : Nat) (ba : Option Addr) (n bc : Nat) : Nat → Prop := fun k => k = B ∨ (Value.slice ba n bc).ownBlock = some k

set_option maxHeartbeats 1000000 in
theorem add_ok (w : World) (b0 B : Nat) (bs ps : List UInt8) (ba : Option Addr) (bc : Nat) (pa : Option Addr) (pc : Nat) (h : Wt b0 w B bs ba bc) (hp : Row w pa ps) (hl : bs.length + ps.length ≤ 100000000) (hb0 : b0 ≤ w.heap.size) :
    Calls Tryd.prog 68 #[.pointer (some ⟨B, 0, none⟩), .slice pa ps.length pc, .int .i64 0] w fun e w' => e = .returned (.tuple #[]) ∧ ∃ ba' bc', Wt b0 w' B (bs ++ ps) ba' bc' ∧ Fr (fun k => k = B ∨ (Value.slice ba bs.length bc).ownBlock = some k) w w' ∧ ∀ k, (Value.slice ba' (bs ++ ps).length bc').ownBlock = some k → (Value.slice ba bs.length bc).ownBlock = some k ∨ w.heap.size ≤ k := by
  have HW := mkH h
  have HP := mkH hp
  clear h hp
  have c0 : w.cell? ⟨B, 0, none⟩ = some (.slice ba bs.length bc) := HW.out.b.cell 0 _ rfl
  have c1 : w.cell? ⟨B, 1, none⟩ = some (.int .i64 0) := HW.out.b.cell 1 _ rfl
  go_enter Tryd.func68, Tryd.ntmps68
  go_wp2_with (at_builtin; refine (Gv.wpList_append_own_src_at _ rfl (.tmp 16) (.tmp 17) 76 76 rfl b0 5 _ 1 1 Tryd.underlying76 info5 rfl (by decide) _ bs.length (U bs) rfl HW.out.o _ ps.length (U ps) rfl (Row.src Tryd.underlying76 HP.out pc) ?h63 ?hby ?hbs ?_))
  case h63 => unfold maxLen; omega
  case hby => omega
  case hbs => exact hb0
  intro v5 w5 hown hgr hat
  obtain ⟨l5, hl5⟩ : ∃ l5, bs ++ ps = l5 := ⟨_, rfl⟩
  have hl5l : bs.length + ps.length = l5.length := by rw [← hl5]; simp
  rw [← U_append, hl5, hl5l] at hown
  obtain ⟨a5, c5, rfl⟩ := own_form hown
  have hf := fr_grown hgr
  have hB5 := HW.out.b.fr hf (fun hk => own_ne HW.out.o HW.out.b hk (by decide) rfl)
  have f0 := hB5.frozen 0
  have f1 := hB5.frozen 1
  have d0 : w5.cell? ⟨B, 0, none⟩ = some (.slice ba bs.length bc) := hB5.cell 0 _ rfl
  have d1 : w5.cell? ⟨B, 1, none⟩ = some (.int .i64 0) := hB5.cell 1 _ rfl
  have HAT := mkH hat
  have HF := mkH hf
  have HB5 := mkH hB5
  have HO5 := mkH hown
  have HL5 := mkH hl5
  clear hown hgr hat hf hB5 hl5 hl5l c0 c1
  go_wp2
  have hB6 : Bx _ B #[.slice a5 l5.length c5, .int .i64 0] 78 := HB5.out.set 0 (.slice a5 l5.length c5)
  have hB7 : Bx _ B #[.slice a5 l5.length c5, .int .i64 0] 78 := hB6.set 1 (.int .i64 0)
  have hF6 := (HB5.out.frset 0 (.slice a5 l5.length c5)).trans (hB6.frset 1 (.int .i64 0)) (fun i hi => .inl hi)
  refine bodyPost_end (results_none rfl _ _ _) rfl ⟨rfl, a5, c5, ?_, ?_, ?_⟩
  · rw [HL5.out]
    exact ⟨hB7, own_fr HO5.out hF6 (fun k hk e => own_ne HO5.out HB5.out hk (by decide) e)⟩
  · exact (HF.out.mono (fun k hk => .inr hk)).trans hF6 (fun i hi => .inl (.inl hi))
  · rw [HL5.out]
    intro k hk
    rcases HAT.out with h | h
    · rw [hk] at h; exact .inl h.symm
    · rw [hk] at h; simp only [Option.some.injEq] at h; exact .inr (by omega)

/-- The numbers that are written, as they are read. -/
def Ns (W : World) (lb : Nat) (ns : List Nat) : Prop := ∃ cs : Array Value, Bx W lb cs 3 ∧ ∀ (i n : Nat), ns[i]? = some n → cs[i]? = some (Value.int .i64 (n : Int))
theorem Ns.fr {W W' : World} {Q : Nat → Prop} {lb : Nat} {ns : List Nat} (h : Ns W lb ns) (hF : Fr Q W W') (hq : ¬ Q lb) : Ns W' lb ns := by
  obtain ⟨cs, h1, h2⟩ := h
  exact ⟨cs, h1.fr hF hq, h2⟩

set_option maxHeartbeats 2000000 in
theorem nums_ok (w : World) (b0 B lb : Nat) (ns : List Nat) (cap : Nat) (bs : List UInt8) (ba : Option Addr) (bc : Nat) (h : Wt b0 w B bs ba bc) (hn : Ns w lb ns) (hm : ∀ n ∈ ns, n ≤ 4611686018427387904) (hl : bs.length + 9 * ns.length ≤ 90000000) (hb0 : b0 ≤ w.heap.size) (hBb : b0 ≤ B) (bt : List UInt8) (hbt : bs ++ ns.flatMap enc = bt) :
    Calls Tryd.prog 38 #[.pointer (some ⟨B, 0, none⟩), .slice (some ⟨lb, 0, none⟩) ns.length cap] w fun e w' => e = .returned (.tuple #[]) ∧ ∃ ba' bc', Wt b0 w' B bt ba' bc' ∧ Fr (fun k => k = B ∨ (Value.slice ba bs.length bc).ownBlock = some k) w w' ∧ ∀ k, (Value.slice ba' bt.length bc').ownBlock = some k → (Value.slice ba bs.length bc).ownBlock = some k ∨ w.heap.size ≤ k := by
  have HW := mkH h
  have HN := mkH hn
  have HM := mkH hm
  have HBT := mkH hbt
  clear h hn hm hbt
  go_enter Tryd.func38, Tryd.ntmps38
  go_wp2_with fail
  go_loopw [8] (fun i WW => ∃ (j : Nat) (l : List UInt8) (qa : Option Addr) (qc : Nat), j ≤ ns.length ∧ i = .int .i64 (j : Int) ∧ Hid (l = bs ++ (ns.take j).flatMap enc) ∧ l.length ≤ bs.length + 9 * j ∧ Hid (Wt b0 WW B l qa qc) ∧ Hid (Fr (fun k => k = B ∨ (Value.slice ba bs.length bc).ownBlock = some k) w WW) ∧ Hid (∀ k, (Value.slice qa l.length qc).ownBlock = some k → (Value.slice ba bs.length bc).ownBlock = some k ∨ w.heap.size ≤ k)) (fun i _ => ns.length - (intOf i).toNat)
  case atStart => exact ⟨0, bs, ba, bc, Nat.zero_le _, rfl, by unfold Hid; simp, by omega, HW, Fr.refl _ _, fun k hk => .inl hk⟩
  case round =>
    obtain ⟨j, l, qa, qc, hj, rfl, HL, hll, HW1, HF1, HK1⟩ := hrel
    rcases Nat.lt_or_ge j ns.length with hjl | hjl
    · obtain ⟨n, hx⟩ := some_of hjl
      have h2 : (j : Int) < (ns.length : Int) := by omega
      have hnb : ¬ (lb = B ∨ (Value.slice ba bs.length bc).ownBlock = some lb) := by
        obtain ⟨cs, h1, -⟩ := HN.out
        rintro (e | e)
        · exact bx_ne h1 HW.out.b (by decide) e
        · exact own_ne HW.out.o h1 e (by decide) rfl
      obtain ⟨cs, hcs, hat⟩ := HN.out.fr HF1.out hnb
      have z0 : wr.cell? ⟨lb, j, none⟩ = some (.int .i64 (n : Int)) := hcs.cell j _ (hat j n hx)
      have hn62 := HM.out n (List.mem_of_getElem? hx)
      have HT : Hid ((ns.take (j + 1)).flatMap enc = (ns.take j).flatMap enc ++ enc n) := by
        unfold Hid
        rw [take_snoc hx, List.flatMap_append]; simp
      have hen := enc_len9 hn62
      have hs1 := HF1.out.size
      clear hcs hat hnb hx
      go_wp2_with fail
      have hNm := num_ok wr none 0 n [] (Row.nil _ _) (by simp) hn62
      simp only [List.length_nil, Nat.zero_add, List.nil_append] at hNm
      refine hNm.mono ?_
      rintro e w2 ⟨v2, rfl, ho2, hb2⟩
      obtain ⟨pa, pc, rfl⟩ := own_form ho2
      have HW2 := mkH (HW1.out.below hb2)
      have HP2 := mkH (Row.own ho2).2.2
      have hsz2 := hb2.size
      have HB2 := mkH hb2
      clear hNm ho2 hb2
      go_wp2_with fail
      refine (add_ok w2 b0 B l (enc n) qa qc pa pc HW2.out HP2.out (by omega) (by omega)).mono ?_
      rintro e w3 ⟨rfl, qa3, qc3, hw3, hf3, hk3⟩
      obtain ⟨l3, hl3⟩ : ∃ x, l ++ enc n = x := ⟨_, rfl⟩
      have hl3l : l3.length ≤ bs.length + 9 * (j + 1) := by rw [← hl3, List.length_append]; omega
      rw [hl3] at hw3 hk3
      have HW3 := mkH hw3
      have HL3 := mkH hl3
      have HF3 : Hid (Fr (fun k => k = B ∨ (Value.slice ba bs.length bc).ownBlock = some k) w w3) := by
        refine (HF1.out.trans (Fr.ofBelow (F := fun _ => False) HB2.out) (fun i hi => hi.elim)).trans hf3 (fun i hi => ?_)
        rcases hi with hi | hi
        · exact .inl (.inl hi)
        · rcases HK1.out i hi with h | h
          · exact .inl (.inr h)
          · exact .inr h
      have HK3 : Hid (∀ k, (Value.slice qa3 l3.length qc3).ownBlock = some k → (Value.slice ba bs.length bc).ownBlock = some k ∨ w.heap.size ≤ k) := fun k hk => by
        rcases hk3 k hk with h | h
        · exact HK1.out k h
        · exact .inr (by omega)
      clear hk3
      clear hw3 hf3 hl3
      go_wp2
      go_roundw
      case rel => exact ⟨j + 1, l3, qa3, qc3, by omega, by go_num, by unfold Hid; rw [← HL3.out, HL.out, HT.out, List.append_assoc], hl3l, HW3, HF3, HK3⟩
      case measure => simp [intOf]; omega
    · have h2 : ¬ (j : Int) < (ns.length : Int) := by omega
      go_wp2
      have e : bt = l := by rw [← HBT.out, HL.out, List.take_of_length_le (by omega)]
      have hfin : ∃ ba' bc', Wt b0 wr B bt ba' bc' ∧ Fr (fun k => k = B ∨ (Value.slice ba bs.length bc).ownBlock = some k) w wr ∧ ∀ k, (Value.slice ba' bt.length bc').ownBlock = some k → (Value.slice ba bs.length bc).ownBlock = some k ∨ w.heap.size ≤ k := by
        rw [e]; exact ⟨qa, qc, HW1.out, HF1.out, HK1.out⟩
      exact bodyPost_end (results_none rfl _ _ _) rfl ⟨rfl, hfin⟩

set_option maxHeartbeats 1000000 in
theorem wtext_ok (w : World) (b0 B : Nat) (s : ByteArray) (bs : List UInt8) (ba : Option Addr) (bc : Nat) (h : Wt b0 w B bs ba bc) (hs : s.size ≤ 4096) (hl : bs.length ≤ 90000000) (hb0 : b0 ≤ w.heap.size) (bt : List UInt8) (hbt : bs ++ encText s.data.toList = bt) :
    Calls Tryd.prog 39 #[.pointer (some ⟨B, 0, none⟩), .string s] w fun e w' => e = .returned (.tuple #[]) ∧ ∃ ba' bc', Wt b0 w' B bt ba' bc' ∧ Fr (fun k => k = B ∨ (Value.slice ba bs.length bc).ownBlock = some k) w w' ∧ ∀ k, (Value.slice ba' bt.length bc').ownBlock = some k → (Value.slice ba bs.length bc).ownBlock = some k ∨ w.heap.size ≤ k := by
  have HW := mkH h
  have HBT := mkH hbt
  clear h hbt
  go_enter Tryd.func39, Tryd.ntmps39
  go_wp2_with fail
  have hTx := text_ok w none 0 s [] (Row.nil _ _) (by simp) hs
  simp only [List.length_nil, Nat.zero_add, List.nil_append] at hTx
  refine hTx.mono ?_
  rintro e w2 ⟨v2, rfl, ho2, hb2⟩
  obtain ⟨pa, pc, rfl⟩ := own_form ho2
  have HW2 := mkH (HW.out.below hb2)
  have hrow := (Row.own ho2).2.2
  have hsz2 := hb2.size
  have HB2 := mkH hb2
  have hee : enc s.size ++ s.data.toList = encText s.data.toList := by unfold encText; simp
  have hel := enc_len9 (n := s.size) (by omega)
  rw [hee] at hrow ⊢
  have hle : (encText s.data.toList).length ≤ 5000 := by rw [← hee, List.length_append]; simp; omega
  have HP2 := mkH hrow
  clear hTx ho2 hb2 hrow hee
  generalize encText s.data.toList = es at *
  go_wp2_with fail
  refine (add_ok w2 b0 B bs es ba bc pa pc HW2.out HP2.out (by omega) (by omega)).mono ?_
  rintro e w3 ⟨rfl, qa3, qc3, hw3, hf3, hk3⟩
  have HW3 := mkH hw3
  have HF3 : Hid (Fr (fun k => k = B ∨ (Value.slice ba bs.length bc).ownBlock = some k) w w3) := (Fr.ofBelow HB2.out).trans hf3 (fun i hi => .inl hi)
  have HK3 : Hid (∀ k, (Value.slice qa3 (bs ++ es).length qc3).ownBlock = some k → (Value.slice ba bs.length bc).ownBlock = some k ∨ w.heap.size ≤ k) := fun k hk => (hk3 k hk).imp id (fun h => by omega)
  clear hw3 hf3 hk3
  go_wp2
  have hfin : ∃ ba' bc', Wt b0 w3 B bt ba' bc' ∧ Fr (fun k => k = B ∨ (Value.slice ba bs.length bc).ownBlock = some k) w w3 ∧ ∀ k, (Value.slice ba' bt.length bc').ownBlock = some k → (Value.slice ba bs.length bc).ownBlock = some k ∨ w.heap.size ≤ k := by
    rw [← HBT.out]; exact ⟨qa3, qc3, HW3.out, HF3.out, HK3.out⟩
  exact bodyPost_end (results_none rfl _ _ _) rfl ⟨rfl, hfin⟩
end Go.Proofs.YtcpmaddleleblaaDoor.Gdw
