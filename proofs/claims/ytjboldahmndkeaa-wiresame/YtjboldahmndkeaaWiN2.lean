/-
  Same, of wire and of the document.
-/
import Derived.Test.YtjboldahmndkeaaWiM0
import Derived.Test.YtjboldahmndkeaaWiM1
import Derived.Test.YtjboldahmndkeaaWiM2
import Derived.Test.YtjboldahmndkeaaWiM3
import Derived.Test.YtjboldahmndkeaaWiL0
import Derived.Test.YtjboldahmndkeaaWiL1
import Derived.Test.YtjboldahmndkeaaWiL2
import Derived.Test.YtjboldahmndkeaaWiL3
import Derived.Test.YtjboldahmndkeaaWiF
import Derived.Deep.Cut
namespace Go.Proofs.Ytjboldahmndkeaa.Wn
open Go.RowKit Kt Pl Wi Wk We Wf
open At (RowT)
set_option linter.unusedVariables false
set_option linter.unusedSimpArgs false
set_option maxRecDepth 20000

def sameC (a b : Cm) : Bool := (decide (a.kind = b.kind) && (decide (a.client = b.client) && (decide (a.num = b.num) && (decide (a.time = b.time) && (decide (a.queue = b.queue) && (decide (a.group = b.group) && (decide (a.body = b.body) && (decide (a.token = b.token) && (decide (a.attempt = b.attempt) && (decide (a.max = b.max) && (decide (a.secs = b.secs) && (decide ((a.rc.q = b.rc.q ∧ a.rc.g = b.rc.g ∧ a.rc.s = b.rc.s ∧ a.rc.c = b.rc.c)) && (decide ((a.lo = b.lo ∧ a.hi = b.hi)) && (decide (a.to = b.to) && (decide (a.data = b.data))))))))))))))))
theorem sameC_self (a : Cm) : sameC a a = true := by simp [sameC]
theorem str_eq (a b : Bs) : ((S a).toList == (S b).toList) = decide (a = b) := by rw [S_toList, S_toList, Bool.eq_iff_iff]; simp

theorem same_any (w : World) (a b : Cm) (ao bo : Option Addr) (acap bcap : Nat) (hl : RowT w ao a.data) (hm : RowT w bo b.data) (h1 : a.data.length ≤ 1000000) (h2 : b.data.length ≤ 1000000) :
    Calls Try.prog 17 #[.agg (Cv a (.slice ao a.data.length acap)), .agg (Cv b (.slice bo b.data.length bcap))] w fun e w' => Tells w (sameC a b) e w' := by
  by_cases p_kind : a.kind = b.kind
  rotate_left
  · rw [show sameC a b = false by simp [sameC, p_kind]]; exact same_0 w a b ao bo acap bcap hl hm h1 h2  (by simpa using p_kind)
  by_cases p_client : a.client = b.client
  rotate_left
  · rw [show sameC a b = false by simp [sameC, p_client]]; exact same_1 w a b ao bo acap bcap hl hm h1 h2 (by simpa using p_kind) (by simpa using p_client)
  by_cases p_num : a.num = b.num
  rotate_left
  · rw [show sameC a b = false by simp [sameC, p_num]]; exact same_2 w a b ao bo acap bcap hl hm h1 h2 (by simpa using p_kind) (by simpa using p_client) (by simpa using p_num)
  by_cases p_time : a.time = b.time
  rotate_left
  · rw [show sameC a b = false by simp [sameC, p_time]]; exact same_3 w a b ao bo acap bcap hl hm h1 h2 (by simpa using p_kind) (by simpa using p_client) (by simpa using p_num) (by simpa using p_time)
  by_cases p_queue : a.queue = b.queue
  rotate_left
  · rw [show sameC a b = false by simp [sameC, p_queue]]; exact same_4 w a b ao bo acap bcap hl hm h1 h2 (by simpa using p_kind) (by simpa using p_client) (by simpa using p_num) (by simpa using p_time) (by simpa using p_queue)
  by_cases p_group : a.group = b.group
  rotate_left
  · rw [show sameC a b = false by simp [sameC, p_group]]; exact same_5 w a b ao bo acap bcap hl hm h1 h2 (by simpa using p_kind) (by simpa using p_client) (by simpa using p_num) (by simpa using p_time) (by simpa using p_queue) (by rw [str_eq]; simpa using p_group)
  by_cases p_body : a.body = b.body
  rotate_left
  · rw [show sameC a b = false by simp [sameC, p_body]]; exact same_6 w a b ao bo acap bcap hl hm h1 h2 (by simpa using p_kind) (by simpa using p_client) (by simpa using p_num) (by simpa using p_time) (by simpa using p_queue) (by rw [str_eq]; simpa using p_group) (by rw [str_eq]; simpa using p_body)
  by_cases p_token : a.token = b.token
  rotate_left
  · rw [show sameC a b = false by simp [sameC, p_token]]; exact same_7 w a b ao bo acap bcap hl hm h1 h2 (by simpa using p_kind) (by simpa using p_client) (by simpa using p_num) (by simpa using p_time) (by simpa using p_queue) (by rw [str_eq]; simpa using p_group) (by rw [str_eq]; simpa using p_body) (by rw [str_eq]; simpa using p_token)
  by_cases p_attempt : a.attempt = b.attempt
  rotate_left
  · rw [show sameC a b = false by simp [sameC, p_attempt]]; exact same_8 w a b ao bo acap bcap hl hm h1 h2 (by simpa using p_kind) (by simpa using p_client) (by simpa using p_num) (by simpa using p_time) (by simpa using p_queue) (by rw [str_eq]; simpa using p_group) (by rw [str_eq]; simpa using p_body) (by rw [str_eq]; simpa using p_token) (by rw [str_eq]; simpa using p_attempt)
  by_cases p_max : a.max = b.max
  rotate_left
  · rw [show sameC a b = false by simp [sameC, p_max]]; exact same_9 w a b ao bo acap bcap hl hm h1 h2 (by simpa using p_kind) (by simpa using p_client) (by simpa using p_num) (by simpa using p_time) (by simpa using p_queue) (by rw [str_eq]; simpa using p_group) (by rw [str_eq]; simpa using p_body) (by rw [str_eq]; simpa using p_token) (by rw [str_eq]; simpa using p_attempt) (by simpa using p_max)
  by_cases p_secs : a.secs = b.secs
  rotate_left
  · rw [show sameC a b = false by simp [sameC, p_secs]]; exact same_10 w a b ao bo acap bcap hl hm h1 h2 (by simpa using p_kind) (by simpa using p_client) (by simpa using p_num) (by simpa using p_time) (by simpa using p_queue) (by rw [str_eq]; simpa using p_group) (by rw [str_eq]; simpa using p_body) (by rw [str_eq]; simpa using p_token) (by rw [str_eq]; simpa using p_attempt) (by simpa using p_max) (by simpa using p_secs)
  by_cases p_rc : (a.rc.q = b.rc.q ∧ a.rc.g = b.rc.g ∧ a.rc.s = b.rc.s ∧ a.rc.c = b.rc.c)
  rotate_left
  · rw [show sameC a b = false by simp [sameC, p_rc]]; exact same_11 w a b ao bo acap bcap hl hm h1 h2 (by simpa using p_kind) (by simpa using p_client) (by simpa using p_num) (by simpa using p_time) (by simpa using p_queue) (by rw [str_eq]; simpa using p_group) (by rw [str_eq]; simpa using p_body) (by rw [str_eq]; simpa using p_token) (by rw [str_eq]; simpa using p_attempt) (by simpa using p_max) (by simpa using p_secs) (by intro w; rw [eqlRc, decide_eq_false p_rc])
  by_cases p_rg : (a.lo = b.lo ∧ a.hi = b.hi)
  rotate_left
  · rw [show sameC a b = false by simp [sameC, p_rg]]; exact same_12 w a b ao bo acap bcap hl hm h1 h2 (by simpa using p_kind) (by simpa using p_client) (by simpa using p_num) (by simpa using p_time) (by simpa using p_queue) (by rw [str_eq]; simpa using p_group) (by rw [str_eq]; simpa using p_body) (by rw [str_eq]; simpa using p_token) (by rw [str_eq]; simpa using p_attempt) (by simpa using p_max) (by simpa using p_secs) (by intro w; rw [eqlRc, decide_eq_true p_rc]) (by intro w; rw [eqlR, decide_eq_false p_rg])
  by_cases p_to : a.to = b.to
  rotate_left
  · rw [show sameC a b = false by simp [sameC, p_to]]; exact same_13 w a b ao bo acap bcap hl hm h1 h2 (by simpa using p_kind) (by simpa using p_client) (by simpa using p_num) (by simpa using p_time) (by simpa using p_queue) (by rw [str_eq]; simpa using p_group) (by rw [str_eq]; simpa using p_body) (by rw [str_eq]; simpa using p_token) (by rw [str_eq]; simpa using p_attempt) (by simpa using p_max) (by simpa using p_secs) (by intro w; rw [eqlRc, decide_eq_true p_rc]) (by intro w; rw [eqlR, decide_eq_true p_rg]) (by simpa using p_to)
  rw [show sameC a b = decide (a.data = b.data) by simp [sameC, p_kind, p_client, p_num, p_time, p_queue, p_group, p_body, p_token, p_attempt, p_max, p_secs, p_rc, p_rg, p_to]]
  exact same_14 w a b ao bo acap bcap hl hm h1 h2 (by simpa using p_kind) (by simpa using p_client) (by simpa using p_num) (by simpa using p_time) (by simpa using p_queue) (by rw [str_eq]; simpa using p_group) (by rw [str_eq]; simpa using p_body) (by rw [str_eq]; simpa using p_token) (by rw [str_eq]; simpa using p_attempt) (by simpa using p_max) (by simpa using p_secs) (by intro w; rw [eqlRc, decide_eq_true p_rc]) (by intro w; rw [eqlR, decide_eq_true p_rg]) (by simpa using p_to)

theorem rsame_any (w : World) (a b : Cm) (ao bo : Option Addr) (acap bcap : Nat) (hl : RowT w ao a.data) (hm : RowT w bo b.data) (h1 : a.data.length ≤ 1000000) (h2 : b.data.length ≤ 1000000) :
    Calls Try.prog 18 #[.agg (Cv a (.slice ao a.data.length acap)), .agg (Cv b (.slice bo b.data.length bcap))] w fun e w' => Tells w (sameC a b) e w' := by
  by_cases p_data : a.data = b.data
  rotate_left
  · rw [show sameC a b = false by simp [sameC, p_data]]; exact rsame_d w a b ao bo acap bcap hl hm h1 h2 p_data
  by_cases p_kind : a.kind = b.kind
  rotate_left
  · rw [show sameC a b = false by simp [sameC, p_kind]]; exact rsame_0 w a b ao bo acap bcap hl hm h1 h2 p_data  (by simpa using p_kind)
  by_cases p_client : a.client = b.client
  rotate_left
  · rw [show sameC a b = false by simp [sameC, p_client]]; exact rsame_1 w a b ao bo acap bcap hl hm h1 h2 p_data (by simpa using p_kind) (by simpa using p_client)
  by_cases p_num : a.num = b.num
  rotate_left
  · rw [show sameC a b = false by simp [sameC, p_num]]; exact rsame_2 w a b ao bo acap bcap hl hm h1 h2 p_data (by simpa using p_kind) (by simpa using p_client) (by simpa using p_num)
  by_cases p_time : a.time = b.time
  rotate_left
  · rw [show sameC a b = false by simp [sameC, p_time]]; exact rsame_3 w a b ao bo acap bcap hl hm h1 h2 p_data (by simpa using p_kind) (by simpa using p_client) (by simpa using p_num) (by simpa using p_time)
  by_cases p_queue : a.queue = b.queue
  rotate_left
  · rw [show sameC a b = false by simp [sameC, p_queue]]; exact rsame_4 w a b ao bo acap bcap hl hm h1 h2 p_data (by simpa using p_kind) (by simpa using p_client) (by simpa using p_num) (by simpa using p_time) (by simpa using p_queue)
  by_cases p_group : a.group = b.group
  rotate_left
  · rw [show sameC a b = false by simp [sameC, p_group]]; exact rsame_5 w a b ao bo acap bcap hl hm h1 h2 p_data (by simpa using p_kind) (by simpa using p_client) (by simpa using p_num) (by simpa using p_time) (by simpa using p_queue) (by rw [str_eq]; simpa using p_group)
  by_cases p_body : a.body = b.body
  rotate_left
  · rw [show sameC a b = false by simp [sameC, p_body]]; exact rsame_6 w a b ao bo acap bcap hl hm h1 h2 p_data (by simpa using p_kind) (by simpa using p_client) (by simpa using p_num) (by simpa using p_time) (by simpa using p_queue) (by rw [str_eq]; simpa using p_group) (by rw [str_eq]; simpa using p_body)
  by_cases p_token : a.token = b.token
  rotate_left
  · rw [show sameC a b = false by simp [sameC, p_token]]; exact rsame_7 w a b ao bo acap bcap hl hm h1 h2 p_data (by simpa using p_kind) (by simpa using p_client) (by simpa using p_num) (by simpa using p_time) (by simpa using p_queue) (by rw [str_eq]; simpa using p_group) (by rw [str_eq]; simpa using p_body) (by rw [str_eq]; simpa using p_token)
  by_cases p_attempt : a.attempt = b.attempt
  rotate_left
  · rw [show sameC a b = false by simp [sameC, p_attempt]]; exact rsame_8 w a b ao bo acap bcap hl hm h1 h2 p_data (by simpa using p_kind) (by simpa using p_client) (by simpa using p_num) (by simpa using p_time) (by simpa using p_queue) (by rw [str_eq]; simpa using p_group) (by rw [str_eq]; simpa using p_body) (by rw [str_eq]; simpa using p_token) (by rw [str_eq]; simpa using p_attempt)
  by_cases p_max : a.max = b.max
  rotate_left
  · rw [show sameC a b = false by simp [sameC, p_max]]; exact rsame_9 w a b ao bo acap bcap hl hm h1 h2 p_data (by simpa using p_kind) (by simpa using p_client) (by simpa using p_num) (by simpa using p_time) (by simpa using p_queue) (by rw [str_eq]; simpa using p_group) (by rw [str_eq]; simpa using p_body) (by rw [str_eq]; simpa using p_token) (by rw [str_eq]; simpa using p_attempt) (by simpa using p_max)
  by_cases p_secs : a.secs = b.secs
  rotate_left
  · rw [show sameC a b = false by simp [sameC, p_secs]]; exact rsame_10 w a b ao bo acap bcap hl hm h1 h2 p_data (by simpa using p_kind) (by simpa using p_client) (by simpa using p_num) (by simpa using p_time) (by simpa using p_queue) (by rw [str_eq]; simpa using p_group) (by rw [str_eq]; simpa using p_body) (by rw [str_eq]; simpa using p_token) (by rw [str_eq]; simpa using p_attempt) (by simpa using p_max) (by simpa using p_secs)
  by_cases p_rc : (a.rc.q = b.rc.q ∧ a.rc.g = b.rc.g ∧ a.rc.s = b.rc.s ∧ a.rc.c = b.rc.c)
  rotate_left
  · rw [show sameC a b = false by simp [sameC, p_rc]]; exact rsame_11 w a b ao bo acap bcap hl hm h1 h2 p_data (by simpa using p_kind) (by simpa using p_client) (by simpa using p_num) (by simpa using p_time) (by simpa using p_queue) (by rw [str_eq]; simpa using p_group) (by rw [str_eq]; simpa using p_body) (by rw [str_eq]; simpa using p_token) (by rw [str_eq]; simpa using p_attempt) (by simpa using p_max) (by simpa using p_secs) (by intro w; rw [eqlRc, decide_eq_false p_rc])
  by_cases p_rg : (a.lo = b.lo ∧ a.hi = b.hi)
  rotate_left
  · rw [show sameC a b = false by simp [sameC, p_rg]]; exact rsame_12 w a b ao bo acap bcap hl hm h1 h2 p_data (by simpa using p_kind) (by simpa using p_client) (by simpa using p_num) (by simpa using p_time) (by simpa using p_queue) (by rw [str_eq]; simpa using p_group) (by rw [str_eq]; simpa using p_body) (by rw [str_eq]; simpa using p_token) (by rw [str_eq]; simpa using p_attempt) (by simpa using p_max) (by simpa using p_secs) (by intro w; rw [eqlRc, decide_eq_true p_rc]) (by intro w; rw [eqlR, decide_eq_false p_rg])
  by_cases p_to : a.to = b.to
  rotate_left
  · rw [show sameC a b = false by simp [sameC, p_to]]; exact rsame_13 w a b ao bo acap bcap hl hm h1 h2 p_data (by simpa using p_kind) (by simpa using p_client) (by simpa using p_num) (by simpa using p_time) (by simpa using p_queue) (by rw [str_eq]; simpa using p_group) (by rw [str_eq]; simpa using p_body) (by rw [str_eq]; simpa using p_token) (by rw [str_eq]; simpa using p_attempt) (by simpa using p_max) (by simpa using p_secs) (by intro w; rw [eqlRc, decide_eq_true p_rc]) (by intro w; rw [eqlR, decide_eq_true p_rg]) (by simpa using p_to)
  rw [show sameC a b = true by simp [sameC, p_kind, p_client, p_num, p_time, p_queue, p_group, p_body, p_token, p_attempt, p_max, p_secs, p_rc, p_rg, p_to, p_data]]
  exact rsame_14 w a b ao bo acap bcap hl hm h1 h2 p_data (by simpa using p_kind) (by simpa using p_client) (by simpa using p_num) (by simpa using p_time) (by simpa using p_queue) (by rw [str_eq]; simpa using p_group) (by rw [str_eq]; simpa using p_body) (by rw [str_eq]; simpa using p_token) (by rw [str_eq]; simpa using p_attempt) (by simpa using p_max) (by simpa using p_secs) (by intro w; rw [eqlRc, decide_eq_true p_rc]) (by intro w; rw [eqlR, decide_eq_true p_rg]) (by simpa using p_to)
end Go.Proofs.Ytjboldahmndkeaa.Wn
