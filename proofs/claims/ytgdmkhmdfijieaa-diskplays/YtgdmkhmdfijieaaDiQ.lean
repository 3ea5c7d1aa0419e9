/-
  A disk and the document's one, side by side, apart from memory that stays.
-/
import Derived.Test.YtgdmkhmdfijieaaDiR3
namespace Go.Proofs.Ytgdmkhmdfijieaa.Dq
open Go.RowKit Kt Dk Dp Da Db Dc Dd De Df Dg Dst Dr Dr2 Dr3
set_option linter.unusedVariables false
set_option maxRecDepth 20000

/-- Block D is a disk, block R the document's; apart from each other and from the blocks of P, which are as they were in w1. -/
def Pr (w1 : World) (P : Nat → Prop) (w : World) (D R : Nat) (s t : St) : Prop :=
  (∃ F G, Ds w F D s ∧ Rs w G R t ∧ (∀ k, F k → ¬ G k) ∧ (∀ k, F k → ¬ P k) ∧ ∀ k, G k → ¬ P k) ∧ Fr (fun k => ¬ P k) w1 w ∧ ∀ k, P k → k < w1.heap.size
section
variable {w1 : World} {P : Nat → Prop} {w w' : World} {D R : Nat} {s s' t t' : St}
theorem Pr.stepD {F F' G : Nat → Prop} (h2 : Fr (fun k => ¬ P k) w1 w) (h3 : ∀ k, P k → k < w1.heap.size) (hr : Rs w G R t) (hFG : ∀ k, F k → ¬ G k) (hFP : ∀ k, F k → ¬ P k) (hGP : ∀ k, G k → ¬ P k) (h' : Ds w' F' D s') (hn : Nx F w w' F') : Pr w1 P w' D R s' t := by
  refine ⟨⟨F', G, h', hr.fr hn.1 (fun k hg hf => hFG k hf hg), hn.apart hr.lt hFG, fun k hk hp => ?_, hGP⟩, h2.trans hn.1 (fun i hi => .inl (hFP i hi)), h3⟩
  rcases hn.2 k hk with x | x
  · exact hFP k x hp
  · have := h3 k hp; have := h2.size; omega
theorem Pr.stepR {F G G' : Nat → Prop} (h2 : Fr (fun k => ¬ P k) w1 w) (h3 : ∀ k, P k → k < w1.heap.size) (hd : Ds w F D s) (hFG : ∀ k, F k → ¬ G k) (hFP : ∀ k, F k → ¬ P k) (hGP : ∀ k, G k → ¬ P k) (h' : Rs w' G' R t') (hn : Nx G w w' G') : Pr w1 P w' D R s t' := by
  refine ⟨⟨F, G', hd.fr hn.1 hFG, h', fun k hf hg => hn.apart hd.lt (fun k hg hf => hFG k hf hg) k hg hf, hFP, fun k hk hp => ?_⟩, h2.trans hn.1 (fun i hi => .inl (hGP i hi)), h3⟩
  rcases hn.2 k hk with x | x
  · exact hGP k x hp
  · have := h3 k hp; have := h2.size; omega
theorem Pr.below (h : Pr w1 P w D R s t) (hb : Below w.heap.size w w') : Pr w1 P w' D R s t := by
  obtain ⟨⟨F, G, hd, hr, hFG, hFP, hGP⟩, h2, h3⟩ := h
  exact ⟨⟨F, G, hd.below hb, hr.below hb, hFG, hFP, hGP⟩, h2.trans (Fr.ofBelow (F := fun _ => False) hb) (fun _ x => x.elim), h3⟩
/-- What was laid since is protected too. -/
theorem Pr.more (h : Pr w1 P w D R s t) (hb : Below w.heap.size w w') : Pr w' (fun k => P k ∨ (w.heap.size ≤ k ∧ k < w'.heap.size)) w' D R s t := by
  obtain ⟨⟨F, G, hd, hr, hFG, hFP, hGP⟩, h2, h3⟩ := h
  refine ⟨⟨F, G, hd.below hb, hr.below hb, hFG, fun k hk hp => ?_, fun k hk hp => ?_⟩, Fr.refl _ _, fun k hk => ?_⟩
  · rcases hp with x | x
    · exact hFP k hk x
    · have := hd.lt k hk; omega
  · rcases hp with x | x
    · exact hGP k hk x
    · have := hr.lt k hk; omega
  · rcases hk with x | x
    · have := h3 k x; have := h2.size; have := hb.size; omega
    · exact x.2
theorem Pr.size (h : Pr w1 P w D R s t) : w1.heap.size ≤ w.heap.size := h.2.1.size
theorem Pr.toBelow (h : Pr w1 P w D R s t) {B : Nat} (hB : ∀ k, k < B → P k) : Below B w1 w :=
  ⟨h.2.1.os, h.2.1.tape, h.2.1.output, h.2.1.size, fun k hk => h.2.1.block k (h.2.2 k (hB k hk)) (fun x => x (hB k hk))⟩
/-- Back to what was protected ahead: 'X' was protected in between and has turned since. -/
theorem Pr.back {w0 w2 : World} {P0 X : Nat → Prop} (h : Pr w1 P w D R s t) (hP : ∀ k, P0 k → P k) (h0 : Fr (fun k => ¬ P0 k) w0 w1) (hl : ∀ k, P0 k → k < w0.heap.size) (hX : Fr X w w2) (hXP : ∀ k, X k → P k ∧ ¬ P0 k) : Pr w0 P0 w2 D R s t := by
  obtain ⟨⟨F, G, hd, hr, hFG, hFP, hGP⟩, h2, h3⟩ := h
  refine ⟨⟨F, G, hd.fr hX (fun k hf hx => hFP k hf (hXP k hx).1), hr.fr hX (fun k hf hx => hGP k hf (hXP k hx).1), hFG, fun k hf hp => hFP k hf (hP k hp), fun k hf hp => hGP k hf (hP k hp)⟩, ?_, hl⟩
  have e1 : Fr (fun k => ¬ P0 k) w0 w := h0.trans h2 (fun i hi => by
    by_cases hp : P0 i
    · exact absurd (hP i hp) hi
    · exact .inl hp)
  exact e1.trans hX (fun i hi => .inl (hXP i hi).2)

theorem append_pr (h : Pr w1 P w D R s t) (ao : Option Addr) (cap : Nat) (bs : List UInt8) (hr : Row w ao bs) (hl : bs.length ≤ 9223372036854775807) :
    Calls Try.prog 10 #[.pointer (some ⟨D, 0, none⟩), .slice ao bs.length cap] w fun e w' => e = .returned (.int .i64 (appE s bs.length)) ∧ Pr w1 P w' D R (appS s bs) t := by
  obtain ⟨⟨F, G, hd, hrs, hFG, hFP, hGP⟩, h2, h3⟩ := h
  refine (append_any hd ao cap bs hr hl).mono ?_
  rintro e w' ⟨he, F', h', hn⟩
  exact ⟨he, Pr.stepD h2 h3 hrs hFG hFP hGP h' hn⟩
theorem sync_pr (h : Pr w1 P w D R s t) :
    Calls Try.prog 19 #[.pointer (some ⟨D, 0, none⟩)] w fun e w' => e = .returned (.int .i64 (synE s)) ∧ Pr w1 P w' D R (synS s) t := by
  obtain ⟨⟨F, G, hd, hrs, hFG, hFP, hGP⟩, h2, h3⟩ := h
  refine (sync_any hd).mono ?_
  rintro e w' ⟨he, h', hn⟩
  exact ⟨he, Pr.stepD h2 h3 hrs hFG hFP hGP h' hn⟩
theorem cut_pr (h : Pr w1 P w D R s t) (n : Int) :
    Calls Try.prog 11 #[.pointer (some ⟨D, 0, none⟩), .int .i64 n] w fun e w' => e = .returned (.int .i64 (cutE s n)) ∧ Pr w1 P w' D R (cutS s n) t := by
  obtain ⟨⟨F, G, hd, hrs, hFG, hFP, hGP⟩, h2, h3⟩ := h
  refine (cut_any hd n).mono ?_
  rintro e w' ⟨he, h', hn⟩
  exact ⟨he, Pr.stepD h2 h3 hrs hFG hFP hGP h' hn⟩
theorem swap_pr (h : Pr w1 P w D R s t) (ao : Option Addr) (cap : Nat) (bs : List UInt8) (hr : Row w ao bs) (hl : bs.length ≤ 9223372036854775807) :
    Calls Try.prog 20 #[.pointer (some ⟨D, 0, none⟩), .slice ao bs.length cap] w fun e w' => e = .returned (.int .i64 (swpE s bs.length)) ∧ Pr w1 P w' D R (swpS s bs) t := by
  obtain ⟨⟨F, G, hd, hrs, hFG, hFP, hGP⟩, h2, h3⟩ := h
  refine (swap_any hd ao cap bs hr hl).mono ?_
  rintro e w' ⟨he, F', h', hn⟩
  exact ⟨he, Pr.stepD h2 h3 hrs hFG hFP hGP h' hn⟩
theorem crash_pr (h : Pr w1 P w D R s t) (k f : Int) (hf : f ≤ 9223372036854775807) :
    Calls Try.prog 21 #[.pointer (some ⟨D, 0, none⟩), .int .i64 k, .int .i64 f] w fun e w' => e = .returned (.int .i64 (crsE s k)) ∧ Pr w1 P w' D R (crsS s k f) t := by
  obtain ⟨⟨F, G, hd, hrs, hFG, hFP, hGP⟩, h2, h3⟩ := h
  refine (crash_any hd k f hf).mono ?_
  rintro e w' ⟨he, h', hn⟩
  exact ⟨he, Pr.stepD h2 h3 hrs hFG hFP hGP h' hn⟩
theorem restart_pr (h : Pr w1 P w D R s t) :
    Calls Try.prog 22 #[.pointer (some ⟨D, 0, none⟩)] w fun e w' => e = .returned (.int .i64 (rstE s)) ∧ Pr w1 P w' D R (rstS s) t := by
  obtain ⟨⟨F, G, hd, hrs, hFG, hFP, hGP⟩, h2, h3⟩ := h
  refine (restart_any hd).mono ?_
  rintro e w' ⟨he, h', hn⟩
  exact ⟨he, Pr.stepD h2 h3 hrs hFG hFP hGP h' hn⟩

theorem rappend_pr (h : Pr w1 P w D R s t) (ao : Option Addr) (cap : Nat) (bs : List UInt8) (hr : Row w ao bs) (hl : bs.length ≤ 4611686018427387903) :
    Calls Try.prog 29 #[.pointer (some ⟨R, 0, none⟩), .slice ao bs.length cap] w fun e w' => e = .returned (.int .i64 (appE t bs.length)) ∧ Pr w1 P w' D R s (appS t bs) := by
  obtain ⟨⟨F, G, hd, hrs, hFG, hFP, hGP⟩, h2, h3⟩ := h
  refine (rappend_any hrs ao cap bs hr hl).mono ?_
  rintro e w' ⟨he, G', h', hn⟩
  exact ⟨he, Pr.stepR h2 h3 hd hFG hFP hGP h' hn⟩
theorem rsync_pr (h : Pr w1 P w D R s t) :
    Calls Try.prog 30 #[.pointer (some ⟨R, 0, none⟩)] w fun e w' => e = .returned (.int .i64 (synE t)) ∧ Pr w1 P w' D R s (synS t) := by
  obtain ⟨⟨F, G, hd, hrs, hFG, hFP, hGP⟩, h2, h3⟩ := h
  refine (rsync_any hrs).mono ?_
  rintro e w' ⟨he, G', h', hn⟩
  exact ⟨he, Pr.stepR h2 h3 hd hFG hFP hGP h' hn⟩
theorem rcut_pr (h : Pr w1 P w D R s t) (n : Int) :
    Calls Try.prog 31 #[.pointer (some ⟨R, 0, none⟩), .int .i64 n] w fun e w' => e = .returned (.int .i64 (cutE t n)) ∧ Pr w1 P w' D R s (cutS t n) := by
  obtain ⟨⟨F, G, hd, hrs, hFG, hFP, hGP⟩, h2, h3⟩ := h
  refine (rcut_any hrs n).mono ?_
  rintro e w' ⟨he, G', h', hn⟩
  exact ⟨he, Pr.stepR h2 h3 hd hFG hFP hGP h' hn⟩
theorem rswap_pr (h : Pr w1 P w D R s t) (ao : Option Addr) (cap : Nat) (bs : List UInt8) (hr : Row w ao bs) (hl : bs.length ≤ 9223372036854775807) :
    Calls Try.prog 32 #[.pointer (some ⟨R, 0, none⟩), .slice ao bs.length cap] w fun e w' => e = .returned (.int .i64 (swpE t bs.length)) ∧ Pr w1 P w' D R s (swpS t bs) := by
  obtain ⟨⟨F, G, hd, hrs, hFG, hFP, hGP⟩, h2, h3⟩ := h
  refine (rswap_any hrs ao cap bs hr hl).mono ?_
  rintro e w' ⟨he, G', h', hn⟩
  exact ⟨he, Pr.stepR h2 h3 hd hFG hFP hGP h' hn⟩
theorem rcrash_pr (h : Pr w1 P w D R s t) (k f : Int) (hf : f ≤ 9223372036854775807) :
    Calls Try.prog 33 #[.pointer (some ⟨R, 0, none⟩), .int .i64 k, .int .i64 f] w fun e w' => e = .returned (.int .i64 (crsE t k)) ∧ Pr w1 P w' D R s (crsS t k f) := by
  obtain ⟨⟨F, G, hd, hrs, hFG, hFP, hGP⟩, h2, h3⟩ := h
  refine (rcrash_any hrs k f hf).mono ?_
  rintro e w' ⟨he, G', h', hn⟩
  exact ⟨he, Pr.stepR h2 h3 hd hFG hFP hGP h' hn⟩
theorem rrestart_pr (h : Pr w1 P w D R s t) :
    Calls Try.prog 34 #[.pointer (some ⟨R, 0, none⟩)] w fun e w' => e = .returned (.int .i64 (rstE t)) ∧ Pr w1 P w' D R s (rstS t) := by
  obtain ⟨⟨F, G, hd, hrs, hFG, hFP, hGP⟩, h2, h3⟩ := h
  refine (rrestart_any hrs).mono ?_
  rintro e w' ⟨he, G', h', hn⟩
  exact ⟨he, Pr.stepR h2 h3 hd hFG hFP hGP h' hn⟩
end
/-- What a call of the script leaves. -/
def act (s : St) (kd n fl : Int) (b : List UInt8) : St :=
  if kd = 0 then appS s b else if kd = 1 then synS s else if kd = 2 then cutS s n else if kd = 3 then swpS s b else if kd = 4 then crsS s n fl else rstS s
end Go.Proofs.Ytgdmkhmdfijieaa.Dq
