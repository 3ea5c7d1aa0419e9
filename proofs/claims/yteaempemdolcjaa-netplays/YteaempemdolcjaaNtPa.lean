/-
  NetPlays: a bag beside the document's, and the call that came in: what each call leaves.
-/
import Derived.Test.YteaempemdolcjaaNtD2
import Derived.Test.YteaempemdolcjaaNtN2
import Derived.Test.YteaempemdolcjaaNtU
namespace Go.Proofs.Yteaempemdolcjaa.Pa
open Go.RowKit Kt Gf Nr Gk Ns Nw Nx Na Nc Nee Ng Nl No Np Nq Nt Nu Ny Nz Nd1 Nd2 Nn2
set_option linter.unusedVariables false
set_option linter.unusedSimpArgs false
set_option maxRecDepth 20000

/-- A call that came in. -/
def aC (x : Int × Int × Int) : List Value := [.int .i64 x.1, .int .i64 x.2.1, .int .i64 x.2.2]
theorem aC_len (x : Int × Int × Int) : (aC x).length = 3 := rfl

theorem Rg.ft {C : Nat → Prop} {w w' : World} {b rb : Nat} {M : List Int} {L : List (Int × Int)} {p : Int} (h : Rg w rb M) (hg : Bg C w b L p) (hf : Fr (Ft C b w) w w') (hne : rb ≠ b) : Rg w' rb M := by
  obtain ⟨ao, cap, h1, h2⟩ := id h
  obtain ⟨a1, c1, g1, -, -⟩ := hg
  refine h.fr hf (fun hq => ?_) (fun k cur hq e => ?_)
  · rcases hq with e | ⟨-, cur, e⟩
    · exact hne e
    · unfold Bx at h1; rw [h1] at e; simp only [Option.some.injEq, Obj.cells.injEq] at e; exact absurd e.2.1 (by decide)
  · rcases hq with rfl | ⟨-, cur', e'⟩
    · unfold Bx at g1; rw [g1] at e; simp only [Option.some.injEq, Obj.cells.injEq] at e; exact absurd e.2.1 (by decide)
    · rw [e'] at e; simp only [Option.some.injEq, Obj.cells.injEq] at e; exact absurd e.2.1 (by decide)
theorem Bg.rf {C : Nat → Prop} {w w' : World} {b rb : Nat} {M : List Int} {L : List (Int × Int)} {p : Int} (h : Bg C w b L p) (hr : Rg w rb M) (hf : Fr (fun q => q = rb) w w') (hne : rb ≠ b) : Bg C w' b L p := by
  obtain ⟨ao, cap, h1, h2⟩ := hr
  refine h.fr hf (fun e => hne e.symm) (fun k cur hq e => ?_)
  subst hq
  unfold Bx at h1; rw [h1] at e; simp only [Option.some.injEq, Obj.cells.injEq] at e; exact absurd e.2.1 (by decide)

/-- The bag (block w.heap.size), the document's (the next one), the call's box ab, and a number's box nb. -/
structure Z (w : World) (ab nb : Nat) (x : Int × Int × Int) (nv : Option Int) (W : World) (L : List (Int × Int)) (p : Int) (M : List Int) : Prop where
  g : Bg (fun k => w.heap.size ≤ k) W w.heap.size L p
  r : Rg W (w.heap.size + 1) M
  a : Bx W ab #[.int .i64 x.1, .int .i64 x.2.1, .int .i64 x.2.2] 32
  n : ∀ v, nv = some v → Bx W nb #[.int .i64 v] 3
  b : Below w.heap.size w W
  ha : w.heap.size + 2 ≤ ab
  hn : w.heap.size + 2 ≤ nb
section
variable {w : World} {ab nb : Nat} {x : Int × Int × Int} {nv : Option Int} {W : World} {L : List (Int × Int)} {p : Int} {M : List Int}
theorem Z.below (h : Z w ab nb x nv W L p M) {W' : World} (hb : Below W.heap.size W W') : Z w ab nb x nv W' L p M :=
  ⟨h.g.below hb, h.r.below hb, h.a.bel hb, fun v e => (h.n v e).bel hb, h.b.trans (hb.mono h.b.size), h.ha, h.hn⟩
theorem Z.ft (h : Z w ab nb x nv W L p M) {W' : World} {L' : List (Int × Int)} {p' : Int} (hg : Bg (fun k => w.heap.size ≤ k) W' w.heap.size L' p') (hf : Fr (Ft (fun k => w.heap.size ≤ k) w.heap.size W) W W') : Z w ab nb x nv W' L' p' M :=
  ⟨hg, Rg.ft h.r h.g hf (by omega), Bx.ft h.a hf (by decide) (by have := h.ha; omega), fun v e => Bx.ft (h.n v e) hf (by decide) (by have := h.hn; omega), ft_below h.b (Nat.le_refl _) (Nat.le_refl _) hf, h.ha, h.hn⟩
theorem Z.rf (h : Z w ab nb x nv W L p M) {W' : World} {M' : List Int} (hr : Rg W' (w.heap.size + 1) M') (hf : Fr (fun q => q = w.heap.size + 1) W W') : Z w ab nb x nv W' L p M' :=
  ⟨Bg.rf h.g h.r hf (by omega), hr, h.a.fr hf (by have := h.ha; omega), fun v e => (h.n v e).fr hf (by have := h.hn; omega), h.b.trans (hf.below (fun q hq => by omega) h.b.size), h.ha, h.hn⟩
theorem Z.new (h : Z w ab nb x nv W L p M) : ∀ k, W.heap.size ≤ k → w.heap.size ≤ k := fun k hk => Nat.le_trans h.b.size hk

theorem zput (h : Z w ab nb x nv W L p M) {W' : World} (hB : Below W.heap.size W W') (s : Nat) (hs : W.heap.size ≤ s) (hs2 : s < W'.heap.size) (y : Int) (hx : Na.RowE W' (some ⟨s, 0, none⟩) [y]) (hl : L.length ≤ 1000) (hp : 0 ≤ p) (hp2 : p ≤ 1000) :
    Calls Try.prog 8 #[.pointer (some ⟨w.heap.size, 0, none⟩), .slice (some ⟨s, 0, none⟩) 1 1] W' fun e w' => e = .returned (.tuple #[]) ∧ Z w ab nb x nv w' (L ++ [(p, y)]) (p + 1) M :=
  (putnew h.g h.new hB s hs hs2 1 [y] hx (by simp; omega) hp (by omega) (by simp) (by omega)).mono (fun e w' ⟨h1, h2, h3⟩ => ⟨h1, h.ft (by simpa [num] using h2) h3⟩)
theorem zrput (h : Z w ab nb x nv W L p M) (y : Int) (hl : M.length ≤ 1000) :
    Calls Try.prog 9 #[.pointer (some ⟨w.heap.size + 1, 0, none⟩), .int .i64 y] W fun e w' => e = .returned (.tuple #[]) ∧ Z w ab nb x nv w' L p (M ++ [y]) :=
  (rput_any h.r y (by omega)).mono (fun e w' ⟨h1, h2, h3⟩ => ⟨h1, h.rf h2 h3⟩)
theorem ztake_in (h : Z w ab nb x nv W L p M) (k : Nat) (y : Int × Int) (hy : L[k]? = some y) (hl : L.length ≤ 1000) :
    Calls Try.prog 10 #[.pointer (some ⟨w.heap.size, 0, none⟩), .int .i64 (k : Int)] W fun e w' => e = .returned (.tuple #[.int .i64 y.2, .bool true]) ∧ Z w ab nb x nv w' (L.take k ++ L.drop (k + 1)) p M :=
  (take_in h.g k y hy (by omega)).mono (fun e w' ⟨h1, h2, h3⟩ => ⟨h1, h.ft h2 h3⟩)
theorem zrtake_in (h : Z w ab nb x nv W L p M) (k : Nat) (y : Int) (hy : M[k]? = some y) (hl : M.length ≤ 1000) :
    Calls Try.prog 11 #[.pointer (some ⟨w.heap.size + 1, 0, none⟩), .int .i64 (k : Int)] W fun e w' => e = .returned (.tuple #[.int .i64 y, .bool true]) ∧ Z w ab nb x nv w' L p (M.take k ++ M.drop (k + 1)) :=
  (rtake_in h.r k y hy (by omega)).mono (fun e w' ⟨h1, h2, h3⟩ => ⟨h1, h.rf h2 h3⟩)
theorem zdouble_in (h : Z w ab nb x nv W L p M) (k : Nat) (y : Int × Int) (hy : L[k]? = some y) (hl : L.length ≤ 1000) (hp : 0 ≤ p) (hp2 : p ≤ 1000) :
    Calls Try.prog 12 #[.pointer (some ⟨w.heap.size, 0, none⟩), .int .i64 (k : Int)] W fun e w' => e = .returned (.bool true) ∧ Z w ab nb x nv w' (L ++ [(p, y.2)]) (p + 1) M :=
  (double_in h.g h.new k y hy (by omega) hp (by omega)).mono (fun e w' ⟨h1, h2, h3⟩ => ⟨h1, h.ft h2 h3⟩)
theorem zrdouble_in (h : Z w ab nb x nv W L p M) (k : Nat) (y : Int) (hy : M[k]? = some y) (hl : M.length ≤ 1000) :
    Calls Try.prog 13 #[.pointer (some ⟨w.heap.size + 1, 0, none⟩), .int .i64 (k : Int)] W fun e w' => e = .returned (.bool true) ∧ Z w ab nb x nv w' L p (M ++ [y]) :=
  (rdouble_in h.r k y hy (by omega)).mono (fun e w' ⟨h1, h2, h3⟩ => ⟨h1, h.rf h2 h3⟩)
/-- The number's predicate, as the law's function has it. -/
def is3 (v : Int) (y : Int) : Bool := decide (atM y 3 = v)
theorem zdrop {v : Int} (h : Z w ab nb x (some v) W L p M) (hR : Rs L p) (hl : L.length ≤ 1000) :
    Calls Try.prog 15 #[.pointer (some ⟨w.heap.size, 0, none⟩), .func (.func 16) #[] #[.pointer (some ⟨nb, 0, none⟩)]] W fun e w' => e = .returned (.int .i64 ((L.length : Int) - ((L.filter (fun y => !is3 v y.2)).length : Int))) ∧ Z w ab nb x (some v) w' (L.filter (fun y => !is3 v y.2)) p M :=
  (drop_any 16 #[.pointer (some ⟨nb, 0, none⟩)] (enters_of Try.func16 (by kernel_rfl) rfl) h.g hR (by omega) (is3 v) (fun y W' hW' => plays1_any W' nb v ((h.n v rfl).bel hW') y)).mono (fun e w' ⟨h1, h2, h3⟩ => ⟨h1, h.ft h2 h3⟩)
theorem zrdrop {v : Int} (h : Z w ab nb x nv W L p M) (hl : M.length ≤ 1000) :
    Calls Try.prog 17 #[.pointer (some ⟨w.heap.size + 1, 0, none⟩), .int .i64 v] W fun e w' => e = .returned (.int .i64 ((M.length : Int) - ((M.filter (kp v)).length : Int))) ∧ Z w ab nb x nv w' L p (M.filter (kp v)) :=
  (rdrop_any h.r v (by omega)).mono (fun e w' ⟨h1, h2, h3⟩ => ⟨h1, h.rf h2 h3⟩)
end
theorem drop_map (v : Int) (L : List (Int × Int)) : (L.filter (fun y => !is3 v y.2)).map Prod.snd = (L.map Prod.snd).filter (kp v) := by
  rw [List.filter_map]
  congr 1
  refine List.filter_congr (fun y _ => ?_)
  simp [kp, is3]

/-- Both Gets tell the same. -/
theorem zget {w : World} {ab nb : Nat} {x : Int × Int × Int} {nv : Option Int} {W : World} {L : List (Int × Int)} {p : Int} (h : Z w ab nb x nv W L p (L.map Prod.snd)) (i : Int) : ∃ (gx : Int) (gk : Bool),
    (Calls Try.prog 18 #[.pointer (some ⟨w.heap.size, 0, none⟩), .int .i64 i] W fun e w' => e = .returned (.tuple #[.int .i64 gx, .bool gk]) ∧ w' = W) ∧
    (Calls Try.prog 19 #[.pointer (some ⟨w.heap.size + 1, 0, none⟩), .int .i64 i] W fun e w' => e = .returned (.tuple #[.int .i64 gx, .bool gk]) ∧ w' = W) := by
  by_cases hi : i < 0 ∨ (L.length : Int) ≤ i
  · exact ⟨0, false, get_out h.g i hi, rget_out h.r i (by rw [List.length_map]; exact hi)⟩
  · obtain ⟨k, rfl⟩ : ∃ k : Nat, i = (k : Int) := ⟨i.toNat, by omega⟩
    obtain ⟨y, hy⟩ := some_of (l := L) (i := k) (by omega)
    exact ⟨y.2, true, get_in h.g k y hy, rget_in h.r k y.2 (by rw [List.getElem?_map, hy]; rfl)⟩
theorem zcell {w : World} {ab nb : Nat} {x : Int × Int × Int} {nv : Option Int} {W : World} {L : List (Int × Int)} {p : Int} {M : List Int} (h : Z w ab nb x nv W L p M) : W.cell? ⟨ab, 0, none⟩ = some (.int .i64 x.1) ∧ W.cell? ⟨ab, 1, none⟩ = some (.int .i64 x.2.1) ∧ W.cell? ⟨ab, 2, none⟩ = some (.int .i64 x.2.2) :=
  ⟨h.a.cell 0 _ rfl, h.a.cell 1 _ rfl, h.a.cell 2 _ rfl⟩
end Go.Proofs.Yteaempemdolcjaa.Pa
