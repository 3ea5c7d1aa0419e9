/-
  Plain: what stays true of a group whatever is done to it, step by step: its messages rise by their numbers, its numbers stay small. Nothing of the program.
-/
import Derived.Test.YtcpmaddleleblaaDoorGpP
import Derived.Test.YtcpmaddleleblaaDoorGpY
namespace Go.Proofs.YtcpmaddleleblaaDoor.Gop
open Gp
set_option linter.unusedVariables false

/-- Messages that rise by their numbers. -/
def Ri (l : List K) : Prop := l.Pairwise (fun x y => x.seq < y.seq)
/-- A message's numbers, at step i. -/
def Km (i : Nat) (m : K) : Prop := 0 ≤ m.seq ∧ (0 ≤ m.sent ∧ m.sent ≤ 100000) ∧ (0 ≤ m.cnt ∧ m.cnt ≤ i) ∧ (0 ≤ m.till ∧ m.till ≤ 100000) ∧ (0 ≤ m.frm ∧ m.frm ≤ 100000)
/-- A group, at step i. -/
structure J (i : Nat) (g : G) : Prop where
  ri : Ri g.kept
  lo : ∀ m ∈ g.kept, m.seq < g.next
  nx : 0 ≤ g.next ∧ g.next ≤ i + 1
  km : ∀ m ∈ g.kept, Km i m
  kl : g.kept.length ≤ 12
  ml : g.marks.length ≤ 40
  mm : ∀ m ∈ g.marks, (0 ≤ m.seq ∧ m.seq ≤ i + 1) ∧ (0 ≤ m.ti ∧ m.ti ≤ 100000)

theorem Km.up {i j : Nat} {m : K} (h : Km i m) (hij : i ≤ j) : Km j m := ⟨h.1, h.2.1, ⟨h.2.2.1.1, by have := h.2.2.1.2; omega⟩, h.2.2.2⟩
theorem J.up {i j : Nat} {g : G} (h : J i g) (hij : i ≤ j) : J j g :=
  ⟨h.ri, h.lo, ⟨h.nx.1, by have := h.nx.2; omega⟩, fun m hm => (h.km m hm).up hij, h.kl, h.ml, fun m hm => ⟨⟨(h.mm m hm).1.1, by have := (h.mm m hm).1.2; omega⟩, (h.mm m hm).2⟩⟩
theorem J.fresh : J 0 ⟨1, [], [], ⟨#[]⟩⟩ := ⟨List.Pairwise.nil, fun m hm => by simp at hm, ⟨by decide, by decide⟩, fun m hm => by simp at hm, by simp, by simp, fun m hm => by simp at hm⟩
theorem J.none (i : Nat) : J i none' := ⟨List.Pairwise.nil, fun m hm => by simp [none'] at hm, ⟨by simp [none'], by simp [none']; omega⟩, fun m hm => by simp [none'] at hm, by simp [none'], by simp [none'], fun m hm => by simp [none'] at hm⟩
theorem J.ok {i : Nat} {g : G} (h : J i g) (hi : i ≤ 1000000) : OkG g := by
  refine ⟨⟨h.nx.1, by have := h.nx.2; omega⟩, fun m hm => ?_, fun m hm => ?_⟩
  · have h1 := h.lo m hm
    have h2 := h.nx.2
    obtain ⟨a, b, c, d, e⟩ := h.km m hm
    exact ⟨⟨a, by omega⟩, ⟨b.1, by omega⟩, ⟨c.1, by omega⟩, ⟨d.1, by omega⟩, ⟨e.1, by omega⟩⟩
  · obtain ⟨a, b⟩ := h.mm m hm
    exact ⟨⟨a.1, by omega⟩, ⟨b.1, by omega⟩⟩
theorem J.expire {i : Nat} {g : G} (h : J i g) (now keep : Int) : J i (expire g now keep) :=
  ⟨h.ri.filter _, fun m hm => h.lo m (List.mem_filter.1 hm).1, h.nx, fun m hm => h.km m (List.mem_filter.1 hm).1, Nat.le_trans (List.length_filter_le _ _) h.kl, Nat.le_trans (List.length_filter_le _ _) h.ml, fun m hm => h.mm m (List.mem_filter.1 hm).1⟩
theorem J.send {i : Nat} {g : G} (h : J i g) (now : Int) (hn : 0 ≤ now ∧ now ≤ 100000) (body tok : ByteArray) : J (i + 1) (sendG g now 0 body tok) := by
  unfold sendG
  split
  · exact h.up (by omega)
  · split
    · exact h.up (by omega)
    · rename_i hq
      refine ⟨?_, ?_, ⟨?_, ?_⟩, ?_, ?_, ?_, ?_⟩
      · refine List.pairwise_append.2 ⟨h.ri, List.pairwise_singleton _ _, fun x hx y hy => ?_⟩
        rw [List.mem_singleton.1 hy]
        exact h.lo x hx
      · intro m hm
        rcases List.mem_append.1 hm with hm | hm
        · have := h.lo m hm; show m.seq < g.next + 1; omega
        · rw [List.mem_singleton.1 hm]; show g.next < g.next + 1; omega
      · show 0 ≤ g.next + 1; have := h.nx.1; omega
      · show g.next + 1 ≤ ((i + 1 : Nat) : Int) + 1; have := h.nx.2; omega
      · intro m hm
        rcases List.mem_append.1 hm with hm | hm
        · exact (h.km m hm).up (by omega)
        · rw [List.mem_singleton.1 hm]; exact ⟨h.nx.1, hn, ⟨Int.le_refl 0, by show (0 : Int) ≤ ((i + 1 : Nat) : Int); omega⟩, ⟨Int.le_refl 0, by show (0 : Int) ≤ 100000; omega⟩, ⟨Int.le_refl 0, by show (0 : Int) ≤ 100000; omega⟩⟩
      · show (g.kept ++ [_]).length ≤ 12; rw [List.length_append]; simp; omega
      · show (g.marks ++ [_]).length ≤ 40; rw [List.length_append]; simp; omega
      · intro m hm
        rcases List.mem_append.1 hm with hm | hm
        · have := h.mm m hm; exact ⟨⟨this.1.1, by omega⟩, this.2⟩
        · rw [List.mem_singleton.1 hm]; exact ⟨⟨h.nx.1, by show g.next ≤ ((i + 1 : Nat) : Int) + 1; have := h.nx.2; omega⟩, hn⟩

theorem rcv_ri (now mx secs most room : Int) : ∀ (l gt dd : List K), Ri (gt ++ l) → Ri ((rcv now mx secs most room gt dd l).1 ++ (rcv now mx secs most room gt dd l).2.2)
  | [], gt, dd, h => by rw [rcv]; simpa using h
  | m :: t, gt, dd, h => by
    rw [rcv]
    split
    · exact h
    · split
      · refine rcv_ri now mx secs most room t gt (dd ++ [m]) ?_
        exact List.Pairwise.sublist (List.Sublist.append_left (List.sublist_cons_self m t) gt) h
      · refine rcv_ri now mx secs most room t (gt ++ [given now secs m]) dd ?_
        rw [List.append_assoc]
        unfold Ri at h ⊢
        rw [List.pairwise_append] at h ⊢
        obtain ⟨h1, h2, h3⟩ := h
        rw [List.pairwise_cons] at h2
        refine ⟨h1, List.pairwise_cons.2 ⟨h2.1, h2.2⟩, fun a ha b hb => ?_⟩
        rcases List.mem_cons.1 hb with rfl | hb
        · exact h3 a ha m List.mem_cons_self
        · exact h3 a ha b (List.mem_cons_of_mem _ hb)
theorem rcv_all (now mx secs most room : Int) (P P' : K → Prop) (h1 : ∀ m, P m → P' m) (h2 : ∀ m, P m → P' (given now secs m)) : ∀ (l gt dd : List K), (∀ m ∈ gt, P' m) → (∀ m ∈ l, P m) →
    (∀ m ∈ (rcv now mx secs most room gt dd l).1 ++ (rcv now mx secs most room gt dd l).2.2, P' m)
  | [], gt, dd, h, h' => by rw [rcv]; simpa using h
  | m :: t, gt, dd, h, h' => by
    rw [rcv]
    split
    · intro x hx
      rcases List.mem_append.1 hx with hx | hx
      · exact h x hx
      · exact h1 x (h' x hx)
    · split
      · exact rcv_all now mx secs most room P P' h1 h2 t gt (dd ++ [m]) h (fun x hx => h' x (List.mem_cons_of_mem _ hx))
      · refine rcv_all now mx secs most room P P' h1 h2 t (gt ++ [given now secs m]) dd (fun x hx => ?_) (fun x hx => h' x (List.mem_cons_of_mem _ hx))
        rcases List.mem_append.1 hx with hx | hx
        · exact h x hx
        · rw [List.mem_singleton.1 hx]; exact h2 m (h' m List.mem_cons_self)
theorem J.receive {i : Nat} {g : G} (h : J i g) (now mx secs most room : Int) (hn : 0 ≤ now ∧ now ≤ 50000) (hs : 0 ≤ secs ∧ secs ≤ 50000) : J (i + 1) (rcvG g now mx secs most room) := by
  have hl := (Gy.rcvG_len g now mx secs most room).1
  unfold rcvG at hl ⊢
  split at hl
  · rename_i hf; rw [if_pos hf]; exact h.up (by omega)
  · rename_i hf
    rw [if_neg hf]
    have hk := rcv_all now mx secs most room (fun m => Km i m ∧ m.seq < g.next) (fun m => Km (i + 1) m ∧ m.seq < g.next) (fun m hm => ⟨hm.1.up (by omega), hm.2⟩) (fun m hm => by
      obtain ⟨⟨a, b, c, d, e⟩, f⟩ := hm
      refine ⟨⟨a, b, ⟨?_, ?_⟩, ⟨?_, ?_⟩, e⟩, f⟩
      · show 0 ≤ m.cnt + 1; have := c.1; omega
      · show m.cnt + 1 ≤ ((i + 1 : Nat) : Int); have := c.2; omega
      · show 0 ≤ now + secs; omega
      · show now + secs ≤ 100000; omega) g.kept [] [] (fun m hm => by simp at hm) (fun m hm => ⟨h.km m hm, h.lo m hm⟩)
    refine ⟨rcv_ri now mx secs most room g.kept [] [] h.ri, fun m hm => (hk m hm).2, ⟨h.nx.1, ?_⟩, fun m hm => (hk m hm).1, Nat.le_trans hl h.kl, h.ml, fun m hm => ?_⟩
    · show g.next ≤ ((i + 1 : Nat) : Int) + 1; have := h.nx.2; omega
    · have := h.mm m hm; exact ⟨⟨this.1.1, by omega⟩, this.2⟩
/-- What was delivered rises, and whatever is kept ahead of one that was delivered was delivered with it. -/
theorem got_ri {i : Nat} {g : G} (h : J i g) (now mx secs most room : Int) : ∃ rest, Ri (rcvGot g now mx secs most room ++ rest) ∧ (rcvGot g now mx secs most room = [] ∨ (rcvG g now mx secs most room).kept = rcvGot g now mx secs most room ++ rest) := by
  unfold rcvGot rcvG
  split
  · exact ⟨[], List.Pairwise.nil, .inl rfl⟩
  · exact ⟨_, rcv_ri now mx secs most room g.kept [] [] h.ri, .inr rfl⟩
theorem ri_lt {l : List K} (h : Ri l) {i j : Nat} {x y : K} (hx : l[i]? = some x) (hy : l[j]? = some y) (hij : i < j) : x.seq < y.seq := by
  obtain ⟨h1, h2⟩ := List.getElem?_eq_some_iff.1 hx
  obtain ⟨h3, h4⟩ := List.getElem?_eq_some_iff.1 hy
  have := List.pairwise_iff_getElem.1 h i j h1 h3 hij
  rw [h2, h4] at this
  exact this
theorem got_here {l got rest : List K} (h : Ri (got ++ rest)) {k : Nat} {y m : K} (hy : got[k]? = some y) (hm : m ∈ got ++ rest) (hs : m.seq < y.seq) : ∃ (j : Nat) (x : K), j < k ∧ got[j]? = some x ∧ x.seq = m.seq := by
  obtain ⟨j, hj⟩ := List.getElem?_of_mem hm
  have hkl : k < got.length := (List.getElem?_eq_some_iff.1 hy).1
  have hy' : (got ++ rest)[k]? = some y := by rw [List.getElem?_append_left hkl]; exact hy
  rcases Nat.lt_or_ge j k with hjk | hjk
  · exact ⟨j, m, hjk, by rw [List.getElem?_append_left (by omega)] at hj; exact hj, rfl⟩
  · rcases Nat.lt_or_ge k j with h1 | h1
    · have := ri_lt h hy' hj h1; omega
    · have : j = k := by omega
      subst this
      rw [hy'] at hj
      cases hj
      omega
theorem J.del {i : Nat} {g : G} (h : J i g) (now seq cnt : Int) : J i (delG g now seq cnt) := by
  unfold delG
  split
  · exact ⟨h.ri.sublist (List.eraseIdx_sublist _ _), fun m hm => h.lo m ((List.eraseIdx_sublist _ _).subset hm), h.nx, fun m hm => h.km m ((List.eraseIdx_sublist _ _).subset hm), Nat.le_trans (List.eraseIdx_sublist _ _).length_le h.kl, h.ml, h.mm⟩
  · split
    · exact h
    · exact J.none i
theorem J.chg {i : Nat} {g : G} (h : J i g) (now seq cnt secs : Int) (hn : 0 ≤ now ∧ now ≤ 50000) (hs : 0 ≤ secs ∧ secs ≤ 50000) : J i (chgG g now seq cnt secs) := by
  unfold chgG
  split
  · generalize (about g now seq cnt).1 = p
    have hset : ∀ x ∈ setTill g.kept p (now + secs), x ∈ g.kept ∨ ∃ m ∈ g.kept, x = ⟨m.seq, m.sent, m.cnt, now + secs, m.frm, m.body⟩ := by
      intro x hx
      unfold setTill at hx
      split at hx
      · rename_i m hm
        rcases List.mem_or_eq_of_mem_set hx with h1 | h1
        · exact .inl h1
        · exact .inr ⟨m, List.mem_of_getElem? hm, h1⟩
      · exact .inl hx
    have hmap : (setTill g.kept p (now + secs)).map (·.seq) = g.kept.map (·.seq) := by
      unfold setTill
      split
      · rename_i m hm
        obtain ⟨h1, h2⟩ := List.getElem?_eq_some_iff.1 hm
        rw [List.map_set]
        show (g.kept.map (·.seq)).set p m.seq = _
        apply List.ext_getElem?
        intro n
        rw [List.getElem?_set]
        split
        · rename_i hpn
          subst hpn
          rw [List.getElem?_map, hm]; simp [h1]
        · rfl
      · rfl
    have hri : Ri (setTill g.kept p (now + secs)) := by
      have h1 : (g.kept.map (·.seq)).Pairwise (· < ·) := List.pairwise_map.2 h.ri
      rw [← hmap] at h1
      exact List.pairwise_map.1 h1
    have hlen : (setTill g.kept p (now + secs)).length = g.kept.length := by
      have := congrArg List.length hmap
      simpa using this
    refine ⟨hri, fun m hm => ?_, h.nx, fun m hm => ?_, by show (setTill g.kept p (now + secs)).length ≤ 12; rw [hlen]; exact h.kl, h.ml, h.mm⟩
    · rcases hset m hm with h1 | ⟨x, hx, rfl⟩
      · exact h.lo m h1
      · exact h.lo x hx
    · rcases hset m hm with h1 | ⟨x, hx, rfl⟩
      · exact h.km m h1
      · obtain ⟨a, b, c, d, e⟩ := h.km x hx
        exact ⟨a, b, c, ⟨by show 0 ≤ now + secs; omega, by show now + secs ≤ 100000; omega⟩, e⟩
  · exact J.none i
theorem any_snoc {gt : List K} {p : Nat} {z : K} {ms : Int} (hz : gt[p]? = some z) : (gt.take (p + 1)).any (fun x => decide (x.seq = ms)) = ((gt.take p).any (fun x => decide (x.seq = ms)) || decide (z.seq = ms)) := by
  have e : gt.take (p + 1) = gt.take p ++ [z] := by rw [List.take_add_one, hz]; rfl
  rw [e, List.any_append]
  simp
theorem here_true {gt k3 : List K} (h : ∃ rest, Ri (gt ++ rest) ∧ (gt = [] ∨ k3 = gt ++ rest)) {j : Nat} {y m : K} (hy : gt[j]? = some y) (hm : m ∈ k3) (hs : m.seq < y.seq) : (gt.take j).any (fun x => decide (x.seq = m.seq)) = true := by
  obtain ⟨rest, h1, h2⟩ := h
  rcases h2 with h2 | h2
  · subst h2; simp at hy
  · subst h2
    obtain ⟨i, x, hi, hx, he⟩ := got_here (l := gt) h1 hy hm hs
    refine List.any_eq_true.2 ⟨x, ?_, by simpa using he⟩
    refine List.mem_of_getElem? (i := i) ?_
    rw [List.getElem?_take, if_pos hi]
    exact hx
theorem got_lt {gt k3 : List K} (h : ∃ rest, Ri (gt ++ rest) ∧ (gt = [] ∨ k3 = gt ++ rest)) {i : Nat} {y z : K} (hz : gt[i]? = some z) (hy : gt[i + 1]? = some y) : z.seq < y.seq := by
  obtain ⟨rest, h1, -⟩ := h
  have h2 : Ri gt := (List.pairwise_append.1 h1).1
  exact ri_lt h2 hz hy (by omega)
theorem fly_same {g : G} {now mx secs most room : Int} (h : flying g now = true) : rcvG g now mx secs most room = g ∧ rcvGot g now mx secs most room = [] ∧ rcvDead g now mx secs most room = [] := by
  unfold rcvG rcvGot rcvDead
  exact ⟨if_pos h, if_pos h, if_pos h⟩
end Go.Proofs.YtcpmaddleleblaaDoor.Gop
