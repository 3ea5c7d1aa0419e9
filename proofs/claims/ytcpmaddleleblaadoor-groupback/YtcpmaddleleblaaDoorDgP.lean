/-
  The plain layer of digest: SHA-256 over lists of bytes and natural numbers. Nothing of the program.
-/
import Init
namespace Go.Proofs.YtcpmaddleleblaaDoor.Dp
set_option linter.unusedVariables false

def add (x y : Nat) : Nat := (x + y) % 4294967296
def rotr (k x : Nat) : Nat := (x / 2 ^ k) ||| (x * 2 ^ (32 - k) % 4294967296)
def ch (e f g : Nat) : Nat := (e &&& f) ^^^ ((e ^^^ 4294967295) &&& g)
def maj (a b c : Nat) : Nat := (a &&& b) ^^^ (a &&& c) ^^^ (b &&& c)
def big (i j k x : Nat) : Nat := rotr i x ^^^ rotr j x ^^^ rotr k x
def lil (i j k x : Nat) : Nat := rotr i x ^^^ rotr j x ^^^ x / 2 ^ k

structure St where
  a : Nat
  b : Nat
  c : Nat
  d : Nat
  e : Nat
  f : Nat
  g : Nat
  h : Nat
def St.list (s : St) : List Nat := [s.a, s.b, s.c, s.d, s.e, s.f, s.g, s.h]
def St.ok (s : St) : Prop := ∀ x ∈ s.list, x < 4294967296
def one (s : St) (K W : Nat) : Nat := add (add (add (add s.h (big 6 11 25 s.e)) (ch s.e s.f s.g)) K) W
def two (s : St) : Nat := add (big 2 13 22 s.a) (maj s.a s.b s.c)
def St.step (s : St) (K W : Nat) : St := ⟨add (one s K W) (two s), s.a, s.b, s.c, add s.d (one s K W), s.e, s.f, s.g⟩
def KT : List Nat := [1116352408, 1899447441, 3049323471, 3921009573, 961987163, 1508970993, 2453635748, 2870763221, 3624381080, 310598401, 607225278, 1426881987, 1925078388, 2162078206, 2614888103, 3248222580, 3835390401, 4022224774, 264347078, 604807628, 770255983, 1249150122, 1555081692, 1996064986, 2554220882, 2821834349, 2952996808, 3210313671, 3336571891, 3584528711, 113926993, 338241895, 666307205, 773529912, 1294757372, 1396182291, 1695183700, 1986661051, 2177026350, 2456956037, 2730485921, 2820302411, 3259730800, 3345764771, 3516065817, 3600352804, 4094571909, 275423344, 430227734, 506948616, 659060556, 883997877, 958139571, 1322822218, 1537002063, 1747873779, 1955562222, 2024104815, 2227730452, 2361852424, 2428436474, 2756734187, 3204031479, 3329325298]
def rnds (s : St) (ws : List Nat) : Nat → St
  | 0 => s
  | n + 1 => (rnds s ws n).step (KT.getD n 0) (ws.getD n 0)
def St.plus (s t : St) : St := ⟨add s.a t.a, add s.b t.b, add s.c t.c, add s.d t.d, add s.e t.e, add s.f t.f, add s.g t.g, add s.h t.h⟩
def word (l : List UInt8) (i : Nat) : Nat := (l.getD (4 * i) 0).toNat * 16777216 + (l.getD (4 * i + 1) 0).toNat * 65536 + (l.getD (4 * i + 2) 0).toNat * 256 + (l.getD (4 * i + 3) 0).toNat
def nxt (l : List Nat) (n : Nat) : Nat := add (add (add (l.getD (n - 16) 0) (l.getD (n - 7) 0)) (lil 7 18 3 (l.getD (n - 15) 0))) (lil 17 19 10 (l.getD (n - 2) 0))
def grow (blk : List UInt8) (n : Nat) (l : List Nat) : List Nat := l ++ [if n < 16 then word blk n else nxt l n]
def sch (blk : List UInt8) : Nat → List Nat
  | 0 => []
  | n + 1 => grow blk n (sch blk n)
def comp (s : St) (blk : List UInt8) : St := s.plus (rnds s (sch blk 64) 64)
def blks (s : St) (l : List UInt8) : Nat → St
  | 0 => s
  | n + 1 => comp (blks s l n) ((l.drop (64 * n)).take 64)
def init : St := ⟨1779033703, 3144134277, 1013904242, 2773480762, 1359893119, 2600822924, 528734635, 1541459225⟩
def padz (n : Nat) : Nat := (119 - n % 64) % 64
def bytes4 (x : Nat) : List UInt8 := [UInt8.ofNat (x / 16777216), UInt8.ofNat (x / 65536), UInt8.ofNat (x / 256), UInt8.ofNat x]
def len8 (n : Nat) : List UInt8 := bytes4 (n * 8 / 4294967296) ++ bytes4 (n * 8 % 4294967296)
def padded (bs : List UInt8) : List UInt8 := bs ++ ([128] ++ (List.replicate (padz bs.length) 0 ++ len8 bs.length))
def fin (bs : List UInt8) : St := blks init (padded bs) ((padded bs).length / 64)
def St.bytes (s : St) : List UInt8 := (s.list.map bytes4).flatten
def dig (bs : List UInt8) : List UInt8 := (fin bs).bytes

theorem add_lt (x y : Nat) : add x y < 4294967296 := Nat.mod_lt _ (by decide)
theorem xor_lt {x y : Nat} (hx : x < 4294967296) (hy : y < 4294967296) : x ^^^ y < 4294967296 := Nat.xor_lt_two_pow (n := 32) hx hy
theorem or_lt {x y : Nat} (hx : x < 4294967296) (hy : y < 4294967296) : x ||| y < 4294967296 := Nat.or_lt_two_pow (n := 32) hx hy
theorem and_lt {x y : Nat} (hx : x < 4294967296) : x &&& y < 4294967296 := Nat.lt_of_le_of_lt Nat.and_le_left hx
theorem div_lt {x : Nat} (k : Nat) (hx : x < 4294967296) : x / 2 ^ k < 4294967296 := Nat.lt_of_le_of_lt (Nat.div_le_self _ _) hx
theorem rotr_lt {x : Nat} (k : Nat) (hx : x < 4294967296) : rotr k x < 4294967296 := or_lt (div_lt k hx) (Nat.mod_lt _ (by decide))
theorem ch_lt {e f g : Nat} (he : e < 4294967296) : ch e f g < 4294967296 := xor_lt (and_lt he) (and_lt (xor_lt he (by decide)))
theorem maj_lt {a b c : Nat} (ha : a < 4294967296) (hb : b < 4294967296) : maj a b c < 4294967296 := xor_lt (xor_lt (and_lt ha) (and_lt ha)) (and_lt hb)
theorem big_lt {i j k x : Nat} (hx : x < 4294967296) : big i j k x < 4294967296 := xor_lt (xor_lt (rotr_lt _ hx) (rotr_lt _ hx)) (rotr_lt _ hx)
theorem lil_lt {i j k x : Nat} (hx : x < 4294967296) : lil i j k x < 4294967296 := xor_lt (xor_lt (rotr_lt _ hx) (rotr_lt _ hx)) (div_lt _ hx)
theorem one_lt (s : St) (K W : Nat) : one s K W < 4294967296 := add_lt _ _
theorem two_lt (s : St) : two s < 4294967296 := add_lt _ _

theorem St.ok_iff (s : St) : s.ok ↔ s.a < 4294967296 ∧ s.b < 4294967296 ∧ s.c < 4294967296 ∧ s.d < 4294967296 ∧ s.e < 4294967296 ∧ s.f < 4294967296 ∧ s.g < 4294967296 ∧ s.h < 4294967296 := by
  simp [St.ok, St.list]
theorem step_ok {s : St} (h : s.ok) (K W : Nat) : (s.step K W).ok := by
  rw [St.ok_iff] at *
  obtain ⟨h1, h2, h3, h4, h5, h6, h7, h8⟩ := h
  exact ⟨add_lt _ _, h1, h2, h3, add_lt _ _, h5, h6, h7⟩
theorem rnds_ok {s : St} (h : s.ok) (ws : List Nat) : ∀ n, (rnds s ws n).ok
  | 0 => h
  | n + 1 => step_ok (rnds_ok h ws n) _ _
theorem plus_ok (s t : St) : (s.plus t).ok := by
  rw [St.ok_iff]
  exact ⟨add_lt _ _, add_lt _ _, add_lt _ _, add_lt _ _, add_lt _ _, add_lt _ _, add_lt _ _, add_lt _ _⟩
theorem comp_ok (s : St) (blk : List UInt8) : (comp s blk).ok := plus_ok _ _
theorem blks_ok {s : St} (h : s.ok) (l : List UInt8) : ∀ n, (blks s l n).ok
  | 0 => h
  | n + 1 => comp_ok _ _
theorem init_ok : init.ok := by rw [St.ok_iff]; decide
theorem fin_ok (bs : List UInt8) : (fin bs).ok := blks_ok init_ok _ _

theorem sch_length (blk : List UInt8) : ∀ n, (sch blk n).length = n
  | 0 => rfl
  | n + 1 => by simp [sch, grow, sch_length blk n]
theorem word_lt (l : List UInt8) (i : Nat) : word l i < 4294967296 := by
  have h1 := (l.getD (4 * i) 0).toNat_lt
  have h2 := (l.getD (4 * i + 1) 0).toNat_lt
  have h3 := (l.getD (4 * i + 2) 0).toNat_lt
  have h4 := (l.getD (4 * i + 3) 0).toNat_lt
  unfold word
  omega
theorem sch_lt (blk : List UInt8) : ∀ n, ∀ x ∈ sch blk n, x < 4294967296
  | 0, x, h => by cases h
  | n + 1, x, h => by
    simp only [sch, grow, List.mem_append, List.mem_singleton] at h
    rcases h with h | rfl
    · exact sch_lt blk n x h
    · split
      · exact word_lt _ _
      · exact add_lt _ _
theorem getD_lt {l : List Nat} (h : ∀ x ∈ l, x < 4294967296) (i : Nat) : l.getD i 0 < 4294967296 := by
  rcases Nat.lt_or_ge i l.length with hl | hl
  · simp only [List.getD, List.getElem?_eq_getElem hl, Option.getD_some]; exact h _ (List.getElem_mem hl)
  · simp [List.getD, List.getElem?_eq_none hl]
theorem KT_lt (i : Nat) : KT.getD i 0 < 4294967296 := getD_lt (by decide) i

theorem blks_append (s : St) (l r : List UInt8) : ∀ n, 64 * n ≤ l.length → blks s (l ++ r) n = blks s l n
  | 0, _ => rfl
  | n + 1, h => by
    rw [blks, blks, blks_append s l r n (by omega), List.drop_append_of_le_length (by omega), List.take_append_of_le_length (by simp; omega)]
theorem bytes4_length (x : Nat) : (bytes4 x).length = 4 := rfl
theorem len8_length (n : Nat) : (len8 n).length = 8 := rfl
theorem padded_length (bs : List UInt8) : (padded bs).length = 64 * (bs.length / 64 + (if bs.length % 64 < 56 then 1 else 2)) := by
  simp only [padded, padz, List.length_append, List.length_replicate, len8_length, List.length_singleton]
  split <;> omega
theorem St.bytes_length (s : St) : s.bytes.length = 32 := rfl
theorem dig_length (bs : List UInt8) : (dig bs).length = 32 := rfl

/-- What the last block, or the last two, hold. -/
theorem fin_small (bs : List UInt8) (h : bs.length % 64 < 56) :
    fin bs = comp (blks init bs (bs.length / 64)) (bs.drop (64 * (bs.length / 64)) ++ ([128] ++ (List.replicate (55 - bs.length % 64) 0 ++ len8 bs.length))) := by
  have hl := padded_length bs
  rw [if_pos h] at hl
  have hz : padz bs.length = 55 - bs.length % 64 := by unfold padz; omega
  unfold fin
  rw [hl, Nat.mul_div_cancel_left _ (by decide), blks]
  have e1 : blks init (padded bs) (bs.length / 64) = blks init bs (bs.length / 64) := blks_append _ _ _ _ (by omega)
  rw [e1]
  congr 1
  rw [List.take_of_length_le (by rw [List.length_drop, hl]; omega), padded, List.drop_append_of_le_length (by omega), hz]
theorem fin_big (bs : List UInt8) (h : 56 ≤ bs.length % 64) :
    fin bs = comp (comp (blks init bs (bs.length / 64)) (bs.drop (64 * (bs.length / 64)) ++ ([128] ++ List.replicate (63 - bs.length % 64) 0))) (List.replicate 56 0 ++ len8 bs.length) := by
  have hl := padded_length bs
  rw [if_neg (by omega)] at hl
  have hz : padz bs.length = (63 - bs.length % 64) + 56 := by unfold padz; omega
  have hlt : bs.length % 64 < 64 := Nat.mod_lt _ (by decide)
  unfold fin
  rw [hl, Nat.mul_div_cancel_left _ (by decide), blks, blks]
  have e1 : blks init (padded bs) (bs.length / 64) = blks init bs (bs.length / 64) := blks_append _ _ _ _ (by omega)
  rw [e1]
  have ep : padded bs = (bs ++ ([128] ++ List.replicate (63 - bs.length % 64) 0)) ++ (List.replicate 56 0 ++ len8 bs.length) := by
    rw [padded, hz, ← List.replicate_append_replicate]; simp
  have e64 : (bs ++ ([128] ++ List.replicate (63 - bs.length % 64) (0 : UInt8))).length = 64 * (bs.length / 64 + 1) := by
    simp; omega
  have e2 : ((padded bs).drop (64 * (bs.length / 64))).take 64 = bs.drop (64 * (bs.length / 64)) ++ ([128] ++ List.replicate (63 - bs.length % 64) 0) := by
    rw [ep, List.drop_append_of_le_length (by omega), List.take_append_of_le_length (by rw [List.length_drop]; omega), List.take_of_length_le (by rw [List.length_drop]; omega), List.drop_append_of_le_length (by omega)]
  have e3 : ((padded bs).drop (64 * (bs.length / 64 + 1))).take 64 = List.replicate 56 0 ++ len8 bs.length := by
    rw [ep, ← e64, List.drop_left, List.take_of_length_le (by rw [List.length_append, List.length_replicate, len8_length]; omega)]
  rw [e2, e3]
end Go.Proofs.YtcpmaddleleblaaDoor.Dp
