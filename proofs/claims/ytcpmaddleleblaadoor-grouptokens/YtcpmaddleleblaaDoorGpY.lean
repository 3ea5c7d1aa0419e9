/-
  Plain: what an attempt got it gets again.
-/
import Derived.Test.YtcpmaddleleblaaDoorGpP
namespace Go.Proofs.YtcpmaddleleblaaDoor.Gy
open Gp
set_option linter.unusedVariables false

theorem rcv_zero (now mx secs room : Int) : ∀ (l gt dd : List K), ∃ k, rcv now mx secs 0 room gt dd l = (gt ++ (l.take k).map (given now secs), dd, l.drop k)
  | [], gt, dd => ⟨0, by simp [rcv]⟩
  | m :: t, gt, dd => by
    by_cases h : mx ≤ (gt.length : Int)
    · exact ⟨0, by rw [rcv_stop (.inl h)]; simp⟩
    · rw [rcv_give h (.inl (by omega))]
      obtain ⟨k, hk⟩ := rcv_zero now mx secs room t (gt ++ [given now secs m]) dd
      exact ⟨k + 1, by rw [hk]; simp⟩
theorem again_ok (g : G) (now mx secs later : Int) (h : rcvGot g now mx secs 0 0 ≠ []) (hl : now ≤ later) :
    (secs ≤ later - now → againL later 100 (rcvG g now mx secs 0 0).kept = []) ∧ (later - now < secs → g.kept.length ≤ 100 → againL later 100 (rcvG g now mx secs 0 0).kept = rcvGot g now mx secs 0 0) := by
  unfold rcvGot at h ⊢
  unfold rcvG
  cases hf : flying g now with
  | true => rw [hf] at h; simp at h
  | false =>
    simp only [Bool.false_eq_true, if_false]
    obtain ⟨k, hk⟩ := rcv_zero now mx secs 0 g.kept [] []
    rw [hk]
    simp only [List.nil_append]
    have hno : ∀ m ∈ g.kept, ¬ now < m.till := by
      intro m hm hlt
      have : flying g now = true := by unfold flying; rw [List.any_eq_true]; exact ⟨m, hm, by unfold fly; simpa using hlt⟩
      rw [hf] at this; cases this
    have hrest : (g.kept.drop k).filter (fly later) = [] := by
      rw [List.filter_eq_nil_iff]
      intro m hm
      have := hno m (List.mem_of_mem_drop hm)
      unfold fly
      simp
      omega
    refine ⟨fun hs => ?_, fun hs hlen => ?_⟩
    · unfold againL
      rw [List.filter_append, hrest, List.append_nil]
      have : ((g.kept.take k).map (given now secs)).filter (fly later) = [] := by
        rw [List.filter_eq_nil_iff]
        intro m hm
        obtain ⟨x, -, rfl⟩ := List.mem_map.1 hm
        unfold fly given
        simp
        omega
      rw [this]; simp
    · unfold againL
      rw [List.filter_append, hrest, List.append_nil]
      have : ((g.kept.take k).map (given now secs)).filter (fly later) = (g.kept.take k).map (given now secs) := by
        rw [List.filter_eq_self]
        intro m hm
        obtain ⟨x, -, rfl⟩ := List.mem_map.1 hm
        unfold fly given
        simp
        omega
      rw [this, List.take_of_length_le]
      rw [List.length_map, List.length_take]
      omega
theorem rcv_len (now mx secs most room : Int) : ∀ (l gt dd : List K), (rcv now mx secs most room gt dd l).1.length + (rcv now mx secs most room gt dd l).2.1.length + (rcv now mx secs most room gt dd l).2.2.length = gt.length + dd.length + l.length
  | [], gt, dd => by simp [rcv]
  | m :: t, gt, dd => by
    rw [rcv]
    split
    · simp
    · split
      · rw [rcv_len now mx secs most room t gt (dd ++ [m])]; simp; omega
      · rw [rcv_len now mx secs most room t (gt ++ [given now secs m]) dd]; simp; omega
theorem rcvG_len (g : G) (now mx secs most room : Int) : (rcvG g now mx secs most room).kept.length ≤ g.kept.length ∧ (rcvGot g now mx secs most room).length ≤ g.kept.length ∧ (rcvDead g now mx secs most room).length ≤ g.kept.length ∧ (rcvG g now mx secs most room).marks = g.marks ∧ (rcvG g now mx secs most room).next = g.next ∧ (rcvG g now mx secs most room).att = g.att := by
  have h := rcv_len now mx secs most room g.kept [] []
  unfold rcvG rcvGot rcvDead
  split
  · simp
  · simp at h ⊢; omega
end Go.Proofs.YtcpmaddleleblaaDoor.Gy
