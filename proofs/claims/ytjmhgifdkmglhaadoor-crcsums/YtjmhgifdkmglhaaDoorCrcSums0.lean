/-
  The walk of CrcSums: the sum of bytes, in one part, in two, and in four of which two are nil.
-/
import Derived.Test.YtjmhgifdkmglhaaDoorCrcX
namespace Go.Proofs.YtjmhgifdkmglhaaDoor.Cb
open Go.RowKit Kt Cs Cw Cf Cn Cg Ck
set_option linter.unusedVariables false

/-- The parts lie in one block. -/
def PartsIn (W : World) (b : Nat) (ps : List Part) : Prop := ∀ i p, ps[i]? = some p → W.cell? ⟨b, i, none⟩ = some (.slice p.ao p.bs.length p.cap) ∧ Row W p.ao p.bs ∧ p.bs.length ≤ 1000000
theorem sum_of (W : World) (ao : Option Addr) (n c : Nat) (bs : List UInt8) (x : Nat) (hx : Cp.sum bs = x) (hT : Tb W) (b : Nat) (hao : ao = some ⟨b, 0, none⟩) (h : ∃ ps : List Part, n = ps.length ∧ ps.length ≤ 1000 ∧ cat ps = bs ∧ PartsIn W b ps) :
    Calls Tryd.prog 11 #[.slice ao n c] W fun e w' => e = .returned (.int .u32 (x : Nat)) ∧ w' = W := by
  obtain ⟨ps, rfl, hn, rfl, hp⟩ := h
  subst hx
  exact sum_any W ao c ps hT (fun _ => ⟨b, 0, hao, fun i p hi => by rw [Nat.zero_add]; exact hp i p hi⟩) hn
theorem parts_new {w1 W : World} (T : TypeId) (ps : List Part) (cs : Array Value) (b : Nat) (hb : b = W.heap.size) (hcs : cs = (ps.map fun p => Value.slice p.ao p.bs.length p.cap).toArray) (hB : Below w1.heap.size w1 W) (HR : ∀ p ∈ ps, Row w1 p.ao p.bs ∧ p.bs.length ≤ 1000000) :
    PartsIn (W.alloc (.cells cs T)) b ps := by
  intro i p hp
  subst hb
  obtain ⟨h1, h2⟩ := HR p (List.mem_of_getElem? hp)
  refine ⟨cell_new_at W cs T i _ ?_, h1.below (hB.alloc hB.size _), h2⟩
  rw [hcs]
  simp [hp]
theorem below_then {a X u : World} (h : Below a.heap.size a X) (k : Below X.heap.size X u) : Below a.heap.size a u := h.trans (k.mono h.size)
theorem PartsIn.drew {W : World} {b : Nat} {ps : List Part} (h : PartsIn W b ps) : PartsIn W.drew b ps := h

set_option maxHeartbeats 1000000 in
set_option maxRecDepth 20000 in
theorem sums_walk (w : World) (hT : Tb w) (ao : Option Addr) (cap : Nat) (bs : List UInt8) (cut : Int) (hr : Row w ao bs) (hlen : bs.length ≤ cap) (hcap : cap ≤ 9223372036854775807) :
    Calls Tryd.prog 3 #[.slice ao bs.length cap, .int .i64 cut] w fun e w' => e = .returned (.bool true) ∧ Below w.heap.size w w' := by
  have hT0 := hT.size
  go_enter Tryd.func3, Tryd.ntmps3
  go_wp2_with fail
  refine (few_any w ao cap bs hr hlen hcap).mono ?_
  rintro e w1 ⟨v1, rfl, hown1, hb1⟩
  obtain ⟨bh, hbh⟩ : ∃ bh, bs.take 3000 = bh := ⟨_, rfl⟩
  have h3 : bh.length ≤ 3000 := by rw [← hbh, List.length_take]; omega
  rw [hbh] at hown1
  clear hr hbh hlen
  obtain ⟨a1, c1, rfl, -, hc1, hr1⟩ := own_row hown1
  have hcc := own_cap hown1
  clear hown1
  obtain ⟨m1, m2, i, hi, hii⟩ := mod_name cut (bh.length + 1) (by omega)
  simp only [Int.natCast_add] at m1 m2 hii
  have e0 : ((1 : Nat) : Int) = 1 := rfl
  rw [e0] at m1 m2 hii
  have t1 : ((bh.length : Int) + 1 == 0) = false := by rw [beq_eq_false_iff_ne]; omega
  have hii2 : (cut.tmod ((bh.length : Int) + 1) + (bh.length : Int) + 1) % ((bh.length : Int) + 1) = (i : Int) := by rw [← hii]; congr 1; omega
  go_wp2_with fail
  refine (refSum_any w1 a1 c1 bh hr1 (by omega)).mono ?_
  rintro e w1' ⟨rfl, rfl⟩
  obtain ⟨s, hs⟩ : ∃ s, Cp.sum bh = s := ⟨_, rfl⟩
  rw [hs, hii2]
  have HS := mkH hs
  clear hs hii hii2 m1 m2 t1 e0
  obtain ⟨aq, haq⟩ : ∃ aq, (if c1 = i then a1 else Option.map (fun x => x.add i) a1) = aq := ⟨_, rfl⟩
  have hrq : Row w1' aq (bh.drop i) := by rw [← haq]; exact Row_drop hr1 hc1
  have i1 : (0 : Int) ≤ (i : Int) := by omega
  have i2 : (i : Int) ≤ (bh.length : Int) := by omega
  have i3 : (bh.length : Int) ≤ (c1 : Int) := by omega
  have i4 : (i : Int) ≤ (c1 : Int) := by omega
  have n2 : i ≤ bh.length := by omega
  have n4 : i ≤ c1 := by omega
  have ts : ((s : Int) == (s : Int)) = true := by simp
  have P1 : Hid ((1 = [(⟨a1, c1, bh⟩ : Part)].length ∧ [(⟨a1, c1, bh⟩ : Part)].length ≤ 1000 ∧ cat [(⟨a1, c1, bh⟩ : Part)] = bh) ∧ (∀ p ∈ [(⟨a1, c1, bh⟩ : Part)], Row w1' p.ao p.bs ∧ p.bs.length ≤ 1000000) ∧ #[Value.slice a1 bh.length c1] = ([(⟨a1, c1, bh⟩ : Part)].map fun p => Value.slice p.ao p.bs.length p.cap).toArray) := by
    unfold Hid
    refine ⟨⟨rfl, by simp, by simp [cat]⟩, ?_, rfl⟩
    intro p hp
    simp only [List.mem_singleton] at hp
    subst hp
    exact ⟨hr1, by simp only; omega⟩
  have hti : (bh.take i).length = i := by rw [List.length_take]; omega
  have hdi : (bh.drop i).length = bh.length - i := List.length_drop
  have P2 : Hid ((2 = [(⟨a1, c1, bh.take i⟩ : Part), ⟨aq, c1 - i, bh.drop i⟩].length ∧ [(⟨a1, c1, bh.take i⟩ : Part), ⟨aq, c1 - i, bh.drop i⟩].length ≤ 1000 ∧ cat [(⟨a1, c1, bh.take i⟩ : Part), ⟨aq, c1 - i, bh.drop i⟩] = bh) ∧ (∀ p ∈ [(⟨a1, c1, bh.take i⟩ : Part), ⟨aq, c1 - i, bh.drop i⟩], Row w1' p.ao p.bs ∧ p.bs.length ≤ 1000000) ∧ #[Value.slice a1 i c1, Value.slice aq (bh.length - i) (c1 - i)] = ([(⟨a1, c1, bh.take i⟩ : Part), ⟨aq, c1 - i, bh.drop i⟩].map fun p => Value.slice p.ao p.bs.length p.cap).toArray) := by
    unfold Hid
    refine ⟨⟨rfl, by simp, by simp [cat]⟩, ?_, by simp only [List.map_cons, List.map_nil, hti, hdi]⟩
    intro p hp
    simp only [List.mem_cons, List.not_mem_nil, or_false] at hp
    rcases hp with rfl | rfl
    · exact ⟨Row_take hr1 i, by simp only; omega⟩
    · exact ⟨hrq, by simp only; omega⟩
  have P4 : Hid ((4 = [(⟨none, 0, []⟩ : Part), ⟨a1, c1, bh.take i⟩, ⟨none, 0, []⟩, ⟨aq, c1 - i, bh.drop i⟩].length ∧ [(⟨none, 0, []⟩ : Part), ⟨a1, c1, bh.take i⟩, ⟨none, 0, []⟩, ⟨aq, c1 - i, bh.drop i⟩].length ≤ 1000 ∧ cat [(⟨none, 0, []⟩ : Part), ⟨a1, c1, bh.take i⟩, ⟨none, 0, []⟩, ⟨aq, c1 - i, bh.drop i⟩] = bh) ∧ (∀ p ∈ [(⟨none, 0, []⟩ : Part), ⟨a1, c1, bh.take i⟩, ⟨none, 0, []⟩, ⟨aq, c1 - i, bh.drop i⟩], Row w1' p.ao p.bs ∧ p.bs.length ≤ 1000000) ∧ #[Value.slice none 0 0, Value.slice a1 i c1, Value.slice none 0 0, Value.slice aq (bh.length - i) (c1 - i)] = ([(⟨none, 0, []⟩ : Part), ⟨a1, c1, bh.take i⟩, ⟨none, 0, []⟩, ⟨aq, c1 - i, bh.drop i⟩].map fun p => Value.slice p.ao p.bs.length p.cap).toArray) := by
    unfold Hid
    refine ⟨⟨rfl, by simp, by simp [cat]⟩, ?_, by simp only [List.map_cons, List.map_nil, hti, hdi, List.length_nil]⟩
    intro p hp
    simp only [List.mem_cons, List.not_mem_nil, or_false] at hp
    rcases hp with rfl | rfl | rfl | rfl
    · exact ⟨Row.nil _ _, by simp⟩
    · exact ⟨Row_take hr1 i, by simp only; omega⟩
    · exact ⟨Row.nil _ _, by simp⟩
    · exact ⟨hrq, by simp only; omega⟩
  clear hti hdi hrq
  have hT1 := hT.below hb1 hT0
  have hT10 := hT1.size
  go_upto_region 4 with fail
  go_region_held3 (fun w' => True) (trivial) (first
    | (go_at_call 11; refine (sum_of _ _ _ _ bh s HS.out ?_ _ rfl ?_).mono ?_; (refine hT1.below (B := w1'.heap.size) ?_ hT10; (repeat (first | exact Below.refl _ _ | refine Below.drew ?_ | refine below_drewN ?_ _ | refine Below.alloc ?_ (by simp; try omega) _))); (first | exact ⟨_, P1.out.1.1, P1.out.1.2.1, P1.out.1.2.2, (parts_new 22 _ _ _ (by simp) P1.out.2.2 (by (repeat (first | exact Below.refl _ _ | refine Below.drew ?_ | refine below_drewN ?_ _ | refine Below.alloc ?_ (by simp; try omega) _))) P1.out.2.1).drew⟩ | exact ⟨_, P2.out.1.1, P2.out.1.2.1, P2.out.1.2.2, (parts_new 22 _ _ _ (by simp) P2.out.2.2 (by (repeat (first | exact Below.refl _ _ | refine Below.drew ?_ | refine below_drewN ?_ _ | refine Below.alloc ?_ (by simp; try omega) _))) P2.out.2.1).drew⟩ | exact ⟨_, P4.out.1.1, P4.out.1.2.1, P4.out.1.2.2, (parts_new 22 _ _ _ (by simp) P4.out.2.2 (by (repeat (first | exact Below.refl _ _ | refine Below.drew ?_ | refine below_drewN ?_ _ | refine Below.alloc ?_ (by simp; try omega) _))) P4.out.2.1).drew⟩); rintro e u1 ⟨rfl, rfl⟩)
    | (go_at_call 12; refine (works_any _ ?_).mono ?_; (refine hT1.below (B := w1'.heap.size) ?_ hT10; (repeat (first | exact Below.refl _ _ | refine Below.drew ?_ | refine below_drewN ?_ _ | refine Below.alloc ?_ (by simp; try omega) _))); rintro e u2 ⟨rfl, hu2⟩))
  have hfin : Below w.heap.size w u2 := by
    refine hb1.trans (Below.mono ?_ hb1.size)
    refine below_then ?_ hu2
    (repeat (first | exact Below.refl _ _ | refine Below.drew ?_ | refine below_drewN ?_ _ | refine Below.alloc ?_ (by simp; try omega) _))
  clear hu2 P1 P2 P4 HS
  go_wp2
  go_ret
  exact ⟨rfl, hfin⟩
end Go.Proofs.YtjmhgifdkmglhaaDoor.Cb
