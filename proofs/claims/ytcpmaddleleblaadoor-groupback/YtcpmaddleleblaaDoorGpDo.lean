/-
  Load's lists, and Load.
-/
import Derived.Test.YtcpmaddleleblaaDoorGpDl
import Derived.Test.YtcpmaddleleblaaDoorGpD
import Derived.Test.YtcpmaddleleblaaDoorRgG
import Derived.Deep.DeepCutAuto
namespace Go.Proofs.YtcpmaddleleblaaDoor.Gdo
open Go.RowKit Kt Gf Gp Gr Gk Ga Gs Gb Gst Pl Wr Rd Fw Gdp Gdr Gdl
set_option linter.unusedVariables false
set_option linter.unusedSimpArgs false
set_option maxRecDepth 20000

/-- What list leaves. -/
def LpK (w : World) (B : Nat) (ao : Option Addr) (l : List K) (st' : Rs) (x : Ending) (w' : World) : Prop := ∃ a c ao' cap', x = .returned (.slice a l.length c) ∧ w'.ownsRow w.heap.size 61 6 (.slice a l.length c) l.length (Fk l) ∧ Rr w' B st' ao' cap' ∧ Sb ao ao' ∧ Fr (fun k => k = B) w w'

set_option maxHeartbeats 2000000 in
theorem listK_any (w : World) (B : Nat) (st : Rs) (ao : Option Addr) (cap : Nat) (h : Rr w B st ao cap) (l : List K) (st' : Rs) (hs : listS msgS st = (l, st')) : Calls Tryd.prog 43 #[.pointer (some ⟨B, 0, none⟩), .func (.func 44) #[.pointer (some ⟨B, 0, none⟩)] #[]] w (LpK w B ao l st') := by
  obtain ⟨⟨c, s1⟩, e1⟩ : ∃ p, numS st = p := ⟨_, rfl⟩
  have hs2 : (if 1024 < c then (([] : List K), stopS s1 3) else loopS msgS c [] s1) = (l, st') := by
    rw [← hs]; unfold listS bindS; rw [e1]; simp only; split <;> rfl
  have HR := mkH h
  have HS := mkH hs2
  have HE1 := mkH e1
  have hBl : B < w.heap.size := h.b.lt
  have HK0 := mkH h.k
  clear h hs hs2 e1
  go_enter Tryd.func43, Tryd.ntmps43
  go_wp2_with fail
  refine (num_any w B st ao cap HR.out c s1 HE1.out).mono ?_
  rintro e w1 ⟨rfl, q1, c1, hr1, hsb1, hf1⟩
  have HR1 := mkH hr1
  have HSb1 := mkH hsb1
  have HF1 := mkH hf1
  clear hr1 hsb1 hf1 HR HE1
  by_cases hc : 1024 < c
  · have h1 : (1024 : Int) < (c : Int) := by omega
    have h2 : decide ((1024 : Int) < (c : Int)) = true := by simpa using h1
    have hx := HS.out
    rw [if_pos hc] at hx
    cases hx
    go_wp2_with fail
    refine (stop_any w1 B s1 q1 c1 HR1.out 3).mono ?_
    rintro e w2 ⟨rfl, h3, hf3⟩
    have hF2 := HF1.out.trans hf3 (fun i hi => .inl hi)
    go_wp2
    refine bodyPost_ret (results_tmp rfl _ _ _) rfl ⟨none, 0, none, 0, rfl, by simpa [Fl] using World.ownsRow_nil _ _ _ _, h3, Sb.none _, hF2⟩
  · have h1 : ¬ (1024 : Int) < (c : Int) := by omega
    have h2 : decide ((1024 : Int) < (c : Int)) = false := by simpa using h1
    have hx := HS.out
    rw [if_neg hc] at hx
    have HX := mkH hx
    have hc2 : c ≤ 1024 := by omega
    clear hx HS h2
    go_wp2_with fail
    go_loopw [6, 14] (fun s6 i WW => ∃ (j : Nat) (acc : List K) (sj : Rs) (qa : Option Addr) (qc : Nat) (ra : Option Addr) (rc : Nat), j ≤ c ∧ i = .int .i64 (j : Int) ∧ s6 = .slice qa acc.length qc ∧ Hid (loopS msgS c [] s1 = loopS msgS (c - j) acc sj) ∧ acc.length ≤ j ∧ Hid (WW.ownsRow w.heap.size 61 6 (.slice qa acc.length qc) acc.length (Fk acc)) ∧ Hid (Rr WW B sj ra rc) ∧ Hid (Sb ao ra) ∧ Hid (Fr (fun k => k = B) w WW)) (fun _ i _ => c - (intOf i).toNat)
    case atStart => exact ⟨0, [], s1, none, 0, q1, c1, Nat.zero_le _, rfl, rfl, by unfold Hid; simp, by simp, by unfold Hid; simpa [Fl] using World.ownsRow_nil _ _ _ _, HR1, HSb1, HF1⟩
    case round =>
      clear HR1 HSb1 HF1
      obtain ⟨j, acc, sj, qa, qc, ra, rc, hj, rfl, rfl, HLp, hal, HO, HRj, HSj, HFj⟩ := hrel
      rcases Nat.lt_or_ge j c with hjc | hjc
      · have h3 : (j : Int) < (c : Int) := by omega
        obtain ⟨⟨m, s2⟩, e2⟩ : ∃ p, msgS sj = p := ⟨_, rfl⟩
        have HLp2 : Hid (loopS msgS c [] s1 = loopS msgS (c - (j + 1)) (acc ++ [m]) s2) := by
          unfold Hid
          rw [HLp.out, show c - j = c - (j + 1) + 1 by omega]
          show bindS msgS _ sj = _
          unfold bindS
          rw [e2]
        have HM := mkH (msg_any wr B sj ra rc HRj.out m s2 e2)
        clear e2
        obtain ⟨x0, x1, x2, x3, x4, x5⟩ := m
        simp only [kC] at HM
        go_wp2_with fail
        refine HM.out.mono ?_
        rintro e w3 ⟨rfl, r3, d3, hr3, hsb3, hf3⟩
        have hs3 := hf3.size
        have HO3 := mkH (own_fr HO.out hf3 (fun k hk e => by have := (HO.out.lt k hk).1; omega))
        have HF3 : Hid (Fr (fun k => k = B) w w3) := HFj.out.trans hf3 (fun i hi => .inl hi)
        have HSb3 : Hid (Sb ao r3) := HSj.out.trans hsb3
        have hal3 : Below w3.heap.size w3 (w3.alloc (.cells #[Value.int .i64 x0, .int .i64 x1, .int .i64 x2, .int .i64 x3, .int .i64 x4, .string x5] 61)) := (Below.refl _ w3).alloc (Nat.le_refl _) _
        have HS4 := mkH (newK w3 ⟨x0, x1, x2, x3, x4, x5⟩ 61)
        simp only [kC] at HS4
        have HO4 := mkH (own_below HO3.out hal3)
        have HR4 := mkH (Rr.below hr3 hal3)
        have HF4 : Hid (Fr (fun k => k = B) w (w3.alloc (.cells #[Value.int .i64 x0, .int .i64 x1, .int .i64 x2, .int .i64 x3, .int .i64 x4, .string x5] 61))) := HF3.out.alloc _
        have hsz4 := HF4.out.size
        clear hr3 hsb3 hf3 hal3 HM HO HRj HSj HFj HO3 HF3
        go_wp2_with (at_builtin; refine (wpList_append_own_src _ rfl (.tmp 16) (.tmp 19) 22 22 rfl w.heap.size 61 _ 6 56 Tryd.underlying22 infoK rfl (by decide) _ acc.length (Fk acc) rfl HO4.out _ 1 (Fk [⟨x0, x1, x2, x3, x4, x5⟩]) rfl HS4.out ?h63 ?hby ?hbs ?_))
        case h63 => unfold maxLen; omega
        case hby => omega
        case hbs => first | exact hsz4 | (simp at hsz4; omega)
        intro v5 w5 hown hgr
        obtain ⟨l5, hl5⟩ : ∃ l5, acc ++ [(⟨x0, x1, x2, x3, x4, x5⟩ : K)] = l5 := ⟨_, rfl⟩
        have hl5l : acc.length + 1 = l5.length := by rw [← hl5]; simp
        rw [show Fk acc ++ Fk [⟨x0, x1, x2, x3, x4, x5⟩] = Fk l5 by rw [← hl5]; exact (Fl_append _ _).symm, hl5l] at hown
        obtain ⟨a5, c5, rfl⟩ := own_form hown
        have hfg := fr_grown hgr
        have HR5 : Hid (Rr w5 B s2 r3 d3) := by
          refine ⟨HR4.out.b.fr hfg (fun hk => own_ne HO4.out HR4.out.b hk (by decide) rfl), ?_, HR4.out.l, HR4.out.c, HR4.out.s, fun a ha => Nat.lt_of_lt_of_le (HR4.out.k a ha) hfg.size⟩
          refine Row.fr HR4.out.r hfg (fun a ha hk => ?_)
          obtain ⟨a0, h0, he⟩ := HSb3.out a ha
          have h5 := HK0.out a0 h0
          have h6 := (HO4.out.lt _ hk).1
          omega
        have HF5 : Hid (Fr (fun k => k = B) w w5) := HF4.out.trans hfg (fun i hi => .inr (HO4.out.lt i hi).1)
        have HO5 := mkH hown
        have HL5 := mkH hl5
        have HL5l := mkH hl5l
        clear hown hgr hl5 hl5l hfg HS4 HO4 HR4 HF4 hsz4
        go_wp2
        go_roundw
        case rel => exact ⟨j + 1, l5, s2, a5, c5, r3, d3, by omega, by go_num, rfl, by unfold Hid; rw [HLp2.out, HL5.out], by have := HL5l.out; omega, HO5, HR5, HSb3, HF5⟩
        case measure => simp [intOf]; omega
      · have h3 : ¬ (j : Int) < (c : Int) := by omega
        obtain rfl : j = c := by omega
        have hx := HX.out
        rw [HLp.out, Nat.sub_self] at hx
        have hx' : (acc, sj) = (l, st') := hx
        cases hx'
        clear hx HX HLp
        go_wp2
        refine bodyPost_ret (results_tmp rfl _ _ _) rfl ⟨qa, qc, ra, rc, rfl, HO.out, HRj.out, HSj.out, HFj.out⟩

/-- What list leaves. -/
def LpM (w : World) (B : Nat) (ao : Option Addr) (l : List M) (st' : Rs) (x : Ending) (w' : World) : Prop := ∃ a c ao' cap', x = .returned (.slice a l.length c) ∧ w'.ownsRow w.heap.size 70 3 (.slice a l.length c) l.length (Fm l) ∧ Rr w' B st' ao' cap' ∧ Sb ao ao' ∧ Fr (fun k => k = B) w w'

set_option maxHeartbeats 2000000 in
theorem listM_any (w : World) (B : Nat) (st : Rs) (ao : Option Addr) (cap : Nat) (h : Rr w B st ao cap) (l : List M) (st' : Rs) (hs : listS markS st = (l, st')) : Calls Tryd.prog 45 #[.pointer (some ⟨B, 0, none⟩), .func (.func 46) #[.pointer (some ⟨B, 0, none⟩)] #[]] w (LpM w B ao l st') := by
  obtain ⟨⟨c, s1⟩, e1⟩ : ∃ p, numS st = p := ⟨_, rfl⟩
  have hs2 : (if 1024 < c then (([] : List M), stopS s1 3) else loopS markS c [] s1) = (l, st') := by
    rw [← hs]; unfold listS bindS; rw [e1]; simp only; split <;> rfl
  have HR := mkH h
  have HS := mkH hs2
  have HE1 := mkH e1
  have hBl : B < w.heap.size := h.b.lt
  have HK0 := mkH h.k
  clear h hs hs2 e1
  go_enter Tryd.func45, Tryd.ntmps45
  go_wp2_with fail
  refine (num_any w B st ao cap HR.out c s1 HE1.out).mono ?_
  rintro e w1 ⟨rfl, q1, c1, hr1, hsb1, hf1⟩
  have HR1 := mkH hr1
  have HSb1 := mkH hsb1
  have HF1 := mkH hf1
  clear hr1 hsb1 hf1 HR HE1
  by_cases hc : 1024 < c
  · have h1 : (1024 : Int) < (c : Int) := by omega
    have h2 : decide ((1024 : Int) < (c : Int)) = true := by simpa using h1
    have hx := HS.out
    rw [if_pos hc] at hx
    cases hx
    go_wp2_with fail
    refine (stop_any w1 B s1 q1 c1 HR1.out 3).mono ?_
    rintro e w2 ⟨rfl, h3, hf3⟩
    have hF2 := HF1.out.trans hf3 (fun i hi => .inl hi)
    go_wp2
    refine bodyPost_ret (results_tmp rfl _ _ _) rfl ⟨none, 0, none, 0, rfl, by simpa [Fl] using World.ownsRow_nil _ _ _ _, h3, Sb.none _, hF2⟩
  · have h1 : ¬ (1024 : Int) < (c : Int) := by omega
    have h2 : decide ((1024 : Int) < (c : Int)) = false := by simpa using h1
    have hx := HS.out
    rw [if_neg hc] at hx
    have HX := mkH hx
    have hc2 : c ≤ 1024 := by omega
    clear hx HS h2
    go_wp2_with fail
    go_loopw [6, 14] (fun s6 i WW => ∃ (j : Nat) (acc : List M) (sj : Rs) (qa : Option Addr) (qc : Nat) (ra : Option Addr) (rc : Nat), j ≤ c ∧ i = .int .i64 (j : Int) ∧ s6 = .slice qa acc.length qc ∧ Hid (loopS markS c [] s1 = loopS markS (c - j) acc sj) ∧ acc.length ≤ j ∧ Hid (WW.ownsRow w.heap.size 70 3 (.slice qa acc.length qc) acc.length (Fm acc)) ∧ Hid (Rr WW B sj ra rc) ∧ Hid (Sb ao ra) ∧ Hid (Fr (fun k => k = B) w WW)) (fun _ i _ => c - (intOf i).toNat)
    case atStart => exact ⟨0, [], s1, none, 0, q1, c1, Nat.zero_le _, rfl, rfl, by unfold Hid; simp, by simp, by unfold Hid; simpa [Fl] using World.ownsRow_nil _ _ _ _, HR1, HSb1, HF1⟩
    case round =>
      clear HR1 HSb1 HF1
      obtain ⟨j, acc, sj, qa, qc, ra, rc, hj, rfl, rfl, HLp, hal, HO, HRj, HSj, HFj⟩ := hrel
      rcases Nat.lt_or_ge j c with hjc | hjc
      · have h3 : (j : Int) < (c : Int) := by omega
        obtain ⟨⟨m, s2⟩, e2⟩ : ∃ p, markS sj = p := ⟨_, rfl⟩
        have HLp2 : Hid (loopS markS c [] s1 = loopS markS (c - (j + 1)) (acc ++ [m]) s2) := by
          unfold Hid
          rw [HLp.out, show c - j = c - (j + 1) + 1 by omega]
          show bindS markS _ sj = _
          unfold bindS
          rw [e2]
        have HM := mkH (mark_any wr B sj ra rc HRj.out m s2 e2)
        clear e2
        obtain ⟨x0, x1, x2⟩ := m
        simp only [mC] at HM
        go_wp2_with fail
        refine HM.out.mono ?_
        rintro e w3 ⟨rfl, r3, d3, hr3, hsb3, hf3⟩
        have hs3 := hf3.size
        have HO3 := mkH (own_fr HO.out hf3 (fun k hk e => by have := (HO.out.lt k hk).1; omega))
        have HF3 : Hid (Fr (fun k => k = B) w w3) := HFj.out.trans hf3 (fun i hi => .inl hi)
        have HSb3 : Hid (Sb ao r3) := HSj.out.trans hsb3
        have hal3 : Below w3.heap.size w3 (w3.alloc (.cells #[Value.string x0, .int .i64 x1, .int .i64 x2] 70)) := (Below.refl _ w3).alloc (Nat.le_refl _) _
        have HS4 := mkH (newM w3 ⟨x0, x1, x2⟩ 70)
        simp only [mC] at HS4
        have HO4 := mkH (own_below HO3.out hal3)
        have HR4 := mkH (Rr.below hr3 hal3)
        have HF4 : Hid (Fr (fun k => k = B) w (w3.alloc (.cells #[Value.string x0, .int .i64 x1, .int .i64 x2] 70))) := HF3.out.alloc _
        have hsz4 := HF4.out.size
        clear hr3 hsb3 hf3 hal3 HM HO HRj HSj HFj HO3 HF3
        go_wp2_with (at_builtin; refine (wpList_append_own_src _ rfl (.tmp 16) (.tmp 19) 23 23 rfl w.heap.size 70 _ 3 32 Tryd.underlying23 infoM rfl (by decide) _ acc.length (Fm acc) rfl HO4.out _ 1 (Fm [⟨x0, x1, x2⟩]) rfl HS4.out ?h63 ?hby ?hbs ?_))
        case h63 => unfold maxLen; omega
        case hby => omega
        case hbs => first | exact hsz4 | (simp at hsz4; omega)
        intro v5 w5 hown hgr
        obtain ⟨l5, hl5⟩ : ∃ l5, acc ++ [(⟨x0, x1, x2⟩ : M)] = l5 := ⟨_, rfl⟩
        have hl5l : acc.length + 1 = l5.length := by rw [← hl5]; simp
        rw [show Fm acc ++ Fm [⟨x0, x1, x2⟩] = Fm l5 by rw [← hl5]; exact (Fl_append _ _).symm, hl5l] at hown
        obtain ⟨a5, c5, rfl⟩ := own_form hown
        have hfg := fr_grown hgr
        have HR5 : Hid (Rr w5 B s2 r3 d3) := by
          refine ⟨HR4.out.b.fr hfg (fun hk => own_ne HO4.out HR4.out.b hk (by decide) rfl), ?_, HR4.out.l, HR4.out.c, HR4.out.s, fun a ha => Nat.lt_of_lt_of_le (HR4.out.k a ha) hfg.size⟩
          refine Row.fr HR4.out.r hfg (fun a ha hk => ?_)
          obtain ⟨a0, h0, he⟩ := HSb3.out a ha
          have h5 := HK0.out a0 h0
          have h6 := (HO4.out.lt _ hk).1
          omega
        have HF5 : Hid (Fr (fun k => k = B) w w5) := HF4.out.trans hfg (fun i hi => .inr (HO4.out.lt i hi).1)
        have HO5 := mkH hown
        have HL5 := mkH hl5
        have HL5l := mkH hl5l
        clear hown hgr hl5 hl5l hfg HS4 HO4 HR4 HF4 hsz4
        go_wp2
        go_roundw
        case rel => exact ⟨j + 1, l5, s2, a5, c5, r3, d3, by omega, by go_num, rfl, by unfold Hid; rw [HLp2.out, HL5.out], by have := HL5l.out; omega, HO5, HR5, HSb3, HF5⟩
        case measure => simp [intOf]; omega
      · have h3 : ¬ (j : Int) < (c : Int) := by omega
        obtain rfl : j = c := by omega
        have hx := HX.out
        rw [HLp.out, Nat.sub_self] at hx
        have hx' : (acc, sj) = (l, st') := hx
        cases hx'
        clear hx HX HLp
        go_wp2
        refine bodyPost_ret (results_tmp rfl _ _ _) rfl ⟨qa, qc, ra, rc, rfl, HO.out, HRj.out, HSj.out, HFj.out⟩

/-- What Load leaves. -/
def Ldp (w : World) (gl : G) (el : Nat) (x : Ending) (w' : World) : Prop := ∃ ka kc ma mc, x = .returned (.tuple #[.agg (gC gl ka kc ma mc), .int .i64 (el : Int)]) ∧ Gl w' gl ka kc ma mc ∧ Below w.heap.size w w'
theorem hmf : ∀ (fn : Fn) (first cap : Array Value) (w : World), (Instr.makeFunc fn first cap).run Tryd.prog w = .ok (.func fn first cap) w := fun _ _ _ _ => rfl
theorem S_eq (s : ByteArray) : S s.data.toList = s := by cases s; rfl

set_option maxHeartbeats 4000000 in
theorem Load_any (w : World) (s : ByteArray) (hs : s.size ≤ 1000000) (gl : G) (el : Nat) (hg : Gdp.loadG s.data.toList = gl) (he : loadE s.data.toList = el) :
    Calls Tryd.prog 19 #[.string s] w (Ldp w gl el) := by
  have hmx : Tryd.prog.follows .mixedOrders = true := by kernel_rfl
  have hig : (Tryd.prog.info? 25).map (·.size) = some 4 := by kernel_rfl
  have hmk := hmf
  obtain ⟨bs, hbs⟩ : ∃ x, s.data.toList = x := ⟨_, rfl⟩
  have hbl : bs.length ≤ 1000000 := by rw [← hbs]; simpa using hs
  obtain ⟨⟨n, s1⟩, e1⟩ : ∃ p, numS (bs, 0) = p := ⟨_, rfl⟩
  obtain ⟨⟨l, s2⟩, e2⟩ : ∃ p, listS msgS s1 = p := ⟨_, rfl⟩
  obtain ⟨⟨k, s3⟩, e3⟩ : ∃ p, listS markS s2 = p := ⟨_, rfl⟩
  obtain ⟨⟨t, s4⟩, e4⟩ : ∃ p, textS s3 = p := ⟨_, rfl⟩
  have hp : parseS (bs, 0) = (⟨(n : Int), l, k, S t⟩, s4) := by
    unfold parseS bindS
    rw [e1]; simp only; rw [e2]; simp only; rw [e3]; simp only; rw [e4]
  have hE : (endS s4).2 = el := by rw [← he, hbs]; unfold loadE; rw [hp]
  have hG : (if el = 0 then (⟨(n : Int), l, k, S t⟩ : G) else none') = gl := by rw [← hg, hbs]; unfold Gdp.loadG; rw [← hbs, he, hbs, hp]
  have H1 := mkH e1
  have H2 := mkH e2
  have H3 := mkH e3
  have H4 := mkH e4
  have HE := mkH hE
  have HG := mkH hG
  have HA := mkH ((Below.refl w.heap.size w).alloc (Nat.le_refl _) (.cells #[Value.int .i64 0, .slice none 0 0, .slice none 0 0, .string ⟨#[]⟩] 25))
  have HZ := mkH (Bx.new w #[Value.int .i64 0, .slice none 0 0, .slice none 0 0, .string ⟨#[]⟩] 25)
  have hsz0 : w.heap.size < (w.alloc (.cells #[Value.int .i64 0, .slice none 0 0, .slice none 0 0, .string ⟨#[]⟩] 25)).heap.size := by simp
  clear e1 e2 e3 e4 hp hE hG hg he
  obtain ⟨W1, cc, hcv, hrow, hbw, hsz1, hc1, hc2⟩ := Gd.conv_any (w.alloc (.cells #[Value.int .i64 0, .slice none 0 0, .slice none 0 0, .string ⟨#[]⟩] 25)) s (by omega)
  rw [hbs] at hcv hrow hc1
  have hW0 : (w.alloc (.cells #[Value.int .i64 0, .slice none 0 0, .slice none 0 0, .string ⟨#[]⟩] 25)).heap.size = w.heap.size + 1 := by simp
  rw [hW0] at hrow hsz1
  have HRow := mkH hrow
  have HB1 := mkH hbw
  clear hrow hbw hbs
  have hal : Below W1.heap.size W1 (W1.alloc (.cells #[Value.slice (some ⟨w.heap.size + 1, 0, none⟩) bs.length cc, .int .i64 0] 86)) := (Below.refl _ W1).alloc (Nat.le_refl _) _
  have HR2 : Hid (Rr (W1.alloc (.cells #[Value.slice (some ⟨w.heap.size + 1, 0, none⟩) bs.length cc, .int .i64 0] 86)) W1.heap.size (bs, 0) (some ⟨w.heap.size + 1, 0, none⟩) cc) := by
    refine ⟨Bx.new W1 #[Value.slice (some ⟨w.heap.size + 1, 0, none⟩) bs.length cc, .int .i64 0] 86, HRow.out.below hal, hc1, hc2, by show bs.length ≤ _; omega, fun a ha => ?_⟩
    cases ha
    show w.heap.size + 1 < _
    have := hal.size
    omega
  have HZ2 := mkH ((HZ.out.bel HB1.out).bel hal)
  have HB2 : Hid (Below w.heap.size w (W1.alloc (.cells #[Value.slice (some ⟨w.heap.size + 1, 0, none⟩) bs.length cc, .int .i64 0] 86))) := (HA.out.trans (HB1.out.mono (by omega))).trans (hal.mono (by have := HB1.out.size; omega))
  have hRB0 : w.heap.size < W1.heap.size := by have := HB1.out.size; omega
  clear hal HRow HZ HA
  go_enter Tryd.func19, Tryd.ntmps19
  go_upto_region 2 with fail
  clear hcv
  generalize W1.alloc (.cells #[Value.slice (some ⟨w.heap.size + 1, 0, none⟩) bs.length cc, .int .i64 0] 86) = W2 at *
  obtain ⟨B, hB⟩ : ∃ x, W1.heap.size = x := ⟨_, rfl⟩
  rw [hB] at HR2 hRB0 ⊢
  have hRB : w.heap.size ≠ B := by omega
  have hwB : w.heap.size ≤ B := by omega
  clear hB hsz1 HB1
  go_wp2_with fail
  refine (num_any W2 B (bs, 0) _ cc HR2.out n s1 H1.out).mono ?_
  rintro e w3 ⟨rfl, q3, c3, hr3, hsb3, hf3⟩
  have HR3 := mkH hr3
  have HZ3 := mkH (HZ2.out.fr hf3 hRB)
  have HB3 := mkH (below_fr HB2.out hf3 (fun k hk => by omega) (Nat.le_refl _))
  clear hr3 hsb3 hf3 HR2 HZ2 HB2
  go_wp2_with fail
  refine (listK_any w3 B s1 q3 c3 HR3.out l s2 H2.out).mono ?_
  rintro e w4 ⟨ka, kc, q4, c4, rfl, ho4, hr4, hsb4, hf4⟩
  have HR4 := mkH hr4
  have HO4 := mkH ho4
  have HZ4 := mkH (HZ3.out.fr hf4 hRB)
  have HB4 := mkH (below_fr HB3.out hf4 (fun k hk => by omega) (Nat.le_refl _))
  clear hr4 hsb4 hf4 ho4 HR3 HZ3
  go_wp2_with fail
  refine (listM_any w4 B s2 q4 c4 HR4.out k s3 H3.out).mono ?_
  rintro e w5 ⟨ma, mc, q5, c5, rfl, ho5, hr5, hsb5, hf5⟩
  have HR5 := mkH hr5
  have HP5 := mkH ho5
  have HO5 := mkH (own_fr HO4.out hf5 (fun k hk e => own_ne HO4.out HR4.out.b hk (by decide) e))
  have HZ5 := mkH (HZ4.out.fr hf5 hRB)
  have HB5 := mkH (below_fr HB4.out hf5 (fun k hk => by omega) (Nat.le_refl _))
  clear hr5 hsb5 hf5 ho5 HR4 HZ4 HO4
  go_wp2_with fail
  refine (rtext_any w5 B s3 q5 c5 HR5.out t s4 H4.out).mono ?_
  rintro e w6 ⟨rfl, q6, c6, hr6, hsb6, hf6⟩
  obtain ⟨tt, htt⟩ : ∃ x, S t = x := ⟨_, rfl⟩
  have HTT := mkH htt
  rw [htt] at HG ⊢
  clear htt
  have hal6 : Below w6.heap.size w6 (w6.alloc (.cells #[Value.int .i64 (n : Int), .slice ka l.length kc, .slice ma k.length mc, .string tt] 25)) := (Below.refl _ w6).alloc (Nat.le_refl _) _
  have HR6 := mkH (Rr.below hr6 hal6)
  have HO6 := mkH (own_below (own_fr HO5.out hf6 (fun k hk e => own_ne HO5.out HR5.out.b hk (by decide) e)) hal6)
  have HP6 := mkH (own_below (own_fr HP5.out hf6 (fun k hk e => own_ne HP5.out HR5.out.b hk (by decide) e)) hal6)
  have HZ6 := mkH ((HZ5.out.fr hf6 hRB).bel hal6)
  have HG6 := mkH (Bx.new w6 #[Value.int .i64 (n : Int), .slice ka l.length kc, .slice ma k.length mc, .string tt] 25)
  have HB6 : Hid (Below w.heap.size w (w6.alloc (.cells #[Value.int .i64 (n : Int), .slice ka l.length kc, .slice ma k.length mc, .string tt] 25))) := by
    have hb := below_fr HB5.out hf6 (fun k hk => by omega) (Nat.le_refl _)
    exact hb.trans (hal6.mono hb.size)
  clear hr6 hsb6 hf6 hal6 HR5 HZ5 HO5 HP5 HB3 HB4 HB5 H1 H2 H3 H4
  go_upto_region 3 with fail
  generalize w6.alloc (.cells #[Value.int .i64 (n : Int), .slice ka l.length kc, .slice ma k.length mc, .string tt] 25) = W6 at *
  obtain ⟨Gb, hGb⟩ : ∃ x, w6.heap.size = x := ⟨_, rfl⟩
  rw [hGb] at HG6 ⊢
  clear hGb
  obtain ⟨b4, f4⟩ := s4
  have cr : W6.cell? ⟨B, 0, none⟩ = some (.slice q6 b4.length c6) := HR6.out.b.cell 0 _ rfl
  have hGB : Gb ≠ B := bx_ne HG6.out HR6.out.b (by decide)
  obtain ⟨st5, hst5⟩ : ∃ x, endS (b4, f4) = x := ⟨_, rfl⟩
  have HST := mkH hst5
  rw [hst5] at HE
  clear hst5
  go_upto_if 19 with fail
  go_cut [5] (fun v5 WW => v5 = .pointer (some ⟨Gb, 0, none⟩) ∧ ∃ q7 c7, Hid (Rr WW B st5 q7 c7) ∧ Hid (Fr (fun k => k = B) W6 WW))
  case first =>
    by_cases hb4 : 0 < b4.length
    · have h1 : (0 : Int) < (b4.length : Int) := by omega
      have h2 : decide ((0 : Int) < (b4.length : Int)) = true := by simpa using h1
      have e5 : st5 = stopS (b4, f4) 5 := by rw [← HST.out]; unfold endS; exact if_pos hb4
      subst e5
      go_wp2_with fail
      refine (stop_any W6 B (b4, f4) q6 c6 HR6.out 5).mono ?_
      rintro e w7 ⟨rfl, h7, hf7⟩
      have H7 := mkH h7
      have HF7 := mkH hf7
      clear h7 hf7
      go_wp2_with fail
      go_meet
      case rel => exact ⟨rfl, none, 0, H7, HF7⟩
    · have h1 : ¬ (0 : Int) < (b4.length : Int) := by omega
      have h2 : decide ((0 : Int) < (b4.length : Int)) = false := by simpa using h1
      have e5 : st5 = (b4, f4) := by rw [← HST.out]; unfold endS; exact if_neg hb4
      subst e5
      go_wp2_with fail
      go_meet
      case rel => exact ⟨rfl, q6, c6, HR6, Fr.refl _ _⟩
  case rest =>
    obtain ⟨rfl, q7, c7, HR7, HF7⟩ := hcut
    generalize wc = W7 at *
    have HZ7 := mkH (HZ6.out.fr HF7.out hRB)
    have HG7 := mkH (HG6.out.fr HF7.out hGB)
    have HO7 := mkH (own_fr HO6.out HF7.out (fun k hk e => own_ne HO6.out HR6.out.b hk (by decide) e))
    have HP7 := mkH (own_fr HP6.out HF7.out (fun k hk e => own_ne HP6.out HR6.out.b hk (by decide) e))
    have HB7 := mkH (below_fr HB6.out HF7.out (fun k hk => by omega) (Nat.le_refl _))
    clear HZ6 HG6 HO6 HP6 HB6 HR6 cr HF7 HST
    obtain ⟨b5, fz⟩ := st5
    have cf : W7.cell? ⟨B, 1, none⟩ = some (.int .i64 (fz : Int)) := HR7.out.b.cell 1 _ rfl
    have eE : fz = el := HE.out
    subst eE
    obtain ⟨z0, z1, z2, z3, y0, y1, y2, y3⟩ := HZ7.out.four
    by_cases hfz : fz = 0
    · subst hfz
      have eG : (⟨(n : Int), l, k, tt⟩ : G) = gl := by rw [← HG.out]; rfl
      subst eG
      obtain ⟨g0, g1, g2, g3, -⟩ := HG7.out.four
      go_wp2
      obtain ⟨hZ8, hF8⟩ := HZ7.out.sAll (v0 := .int .i64 (n : Int)) (v1 := .slice ka l.length kc) (v2 := .slice ma k.length mc) (v3 := .string tt)
      have k8 := own_fr HO7.out hF8 (fun k hk e => own_ne HO7.out HZ7.out hk (by decide) e)
      have m8 := own_fr HP7.out hF8 (fun k hk e => own_ne HP7.out HZ7.out hk (by decide) e)
      refine bodyPost_ret (res_ct rfl _ _ _ rfl rfl (Ga.loadG hZ8)) rfl ⟨ka, kc, ma, mc, rfl, ⟨RowS.own kC_len k8, RowS.own mC_len m8, own_le k8, own_le m8, own_cap k8, own_cap m8⟩, ?_⟩
      exact below_fr HB7.out hF8 (by intro k hk; omega) (Nat.le_refl _)
    · have h1 : ¬ (fz : Int) = 0 := by omega
      have h2 : ((fz : Int) == 0) = false := by simpa using h1
      have eG : none' = gl := by rw [← HG.out, if_neg hfz]
      subst eG
      go_upto_region 6 with fail
      refine wp_region_held_drew (S := fun W => W.cell? ⟨B, 1, none⟩ = some (.int .i64 (fz : Int))) hmx cf (fun hHeld => ?_)
      refine wpAnyH_take (i := 0) (oi := { dst := some 24, op := _, type := _, pos := _, after := _, guard := _ }) (v := .agg #[Value.int .i64 0, .slice none 0 0, .slice none 0 0, .string ⟨#[]⟩]) rfl (by kernel_rfl) (by kernel_rfl) (by kernel_rfl) (fun _ _ _ h => h) (Or.inl ⟨by rfl, ?_⟩) (by assumption) ?_
      · (intro W hSw; (try dsimp only at hSw); (go_simp; try rfl))
      try simp only [Act.put, List.setIfInBounds_toArray, List.set_cons_zero, List.set_cons_succ]
      refine wpAnyH_take (i := 1) (oi := { dst := some 25, op := _, type := _, pos := _, after := _, guard := _ }) (v := ?_) rfl (by kernel_rfl) (by kernel_rfl) (by kernel_rfl) (fun _ _ _ h => h) (Or.inl ⟨by rfl, ?_⟩) (by assumption) ?_
      rotate_left
      · (intro W hSw; (try dsimp only at hSw); go_simp; try (with_reducible rfl))
      try simp only [Act.put, List.setIfInBounds_toArray, List.set_cons_zero, List.set_cons_succ]
      refine wpAnyH_take (i := 2) (oi := { dst := some 26, op := _, type := _, pos := _, after := _, guard := _ }) (v := ?_) rfl (by kernel_rfl) (by kernel_rfl) (by kernel_rfl) (fun _ _ _ h => h) (Or.inl ⟨by rfl, ?_⟩) (by assumption) ?_
      rotate_left
      · (intro W hSw; (try dsimp only at hSw); go_simp; try (with_reducible rfl))
      try simp only [Act.put, List.setIfInBounds_toArray, List.set_cons_zero, List.set_cons_succ]
      refine wpAnyH_ready (rs := [3]) (by kernel_rfl) (by simp) ?_
      refine (AllReadyH.cons (o := { dst := none, op := _, type := _, pos := _, after := _, guard := _ }) rfl (fun K hK => ?_) AllReadyH.nil)
      refine step_st (by rfl) 25 (.tmp 2) (.tmp 24) (by rfl) w.heap.size #[Value.int .i64 0, .slice none 0 0, .slice none 0 0, .string ⟨#[]⟩] #[Value.int .i64 0, .slice none 0 0, .slice none 0 0, .string ⟨#[]⟩] 25 (by rfl) (by rfl) (HZ7.out.bel (below_drew _)) hig (by rfl) (by simp [Value.oneCell']) ?_
      refine hK.out _ _ ?_ (fun hHeld => ?_)
      · exact (((Rr.below HR7.out (below_drew _)).b.rowOther hRB #[Value.int .i64 0, .slice none 0 0, .slice none 0 0, .string ⟨#[]⟩]).cell 1 _ rfl)
      clear hK K
      try simp only [Act.put, List.setIfInBounds_toArray, List.set_cons_zero, List.set_cons_succ]
      refine wpAnyH_take (i := 4) (oi := { dst := some 3, op := _, type := _, pos := _, after := _, guard := _ }) (v := ?_) rfl (by kernel_rfl) (by kernel_rfl) (by kernel_rfl) (fun _ _ _ h => h) (Or.inl ⟨by rfl, ?_⟩) (by assumption) ?_
      rotate_left
      · (intro W hSw; (try dsimp only at hSw); go_simp; try (with_reducible rfl))
      try simp only [Act.put, List.setIfInBounds_toArray, List.set_cons_zero, List.set_cons_succ]
      refine wpAnyH_done (by kernel_rfl) ?_ _
      go_wp2
      have hZ8 : Bx (W7.drew.setRow w.heap.size #[Value.int .i64 0, .slice none 0 0, .slice none 0 0, .string ⟨#[]⟩]) w.heap.size #[Value.int .i64 0, .slice none 0 0, .slice none 0 0, .string ⟨#[]⟩] 25 := (HZ7.out.bel (below_drew _)).row
      have hF8 : Fr (fun x => x = w.heap.size) W7.drew (W7.drew.setRow w.heap.size #[Value.int .i64 0, .slice none 0 0, .slice none 0 0, .string ⟨#[]⟩]) := Bx.frrow _
      refine bodyPost_ret (res_ct rfl _ _ _ rfl rfl (Ga.loadG hZ8)) rfl ⟨none, 0, none, 0, rfl, ⟨RowS.nil _ _, RowS.nil _ _, Nat.le_refl _, Nat.le_refl _, by omega, by omega⟩, ?_⟩
      exact below_fr (HB7.out.trans ((below_drew W7).mono HB7.out.size)) hF8 (by intro k hk; omega) (Nat.le_refl _)
end Go.Proofs.YtcpmaddleleblaaDoor.Gdo
