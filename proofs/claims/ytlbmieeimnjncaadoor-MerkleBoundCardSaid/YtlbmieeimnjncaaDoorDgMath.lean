/- SHA-256 as plain functions on numbers and lists; their laws. Conditions: none. -/
namespace Go.Proofs.YtlbmieeimnjncaaDoor
set_option maxRecDepth 100000
/-- turned right by n. -/
def rotr (n x : Nat) : Nat := x / 2 ^ n ||| x * 2 ^ (32 - n) % 4294967296
def add32 (a b : Nat) : Nat := (a + b) % 4294967296
def rot3 (i j k x : Nat) : Nat := rotr i x ^^^ rotr j x ^^^ rotr k x
def sh3 (i j k x : Nat) : Nat := rotr i x ^^^ rotr j x ^^^ x / 2 ^ k
/-- the four bytes at place i as a number, the highest ahead. -/
def be4 (l : List UInt8) (i : Nat) : Nat := (l.getD i 0).toNat * 16777216 + (l.getD (i + 1) 0).toNat * 65536 + (l.getD (i + 2) 0).toNat * 256 + (l.getD (i + 3) 0).toNat
/-- the words of a block. -/
def nextW (blk : List UInt8) (w : List Nat) : Nat :=
  if w.length < 16 then be4 blk (4 * w.length)
  else add32 (add32 (add32 (sh3 17 19 10 (w.getD (w.length - 2) 0)) (w.getD (w.length - 7) 0)) (sh3 7 18 3 (w.getD (w.length - 15) 0))) (w.getD (w.length - 16) 0)
def wstep (blk : List UInt8) (w : List Nat) : List Nat := w ++ [nextW blk w]
def wl (blk : List UInt8) : Nat → List Nat
  | 0 => []
  | k + 1 => wstep blk (wl blk k)
structure S8 where
  (a b c d e f g h : Nat)
def S8.l (s : S8) : List Nat := [s.a, s.b, s.c, s.d, s.e, s.f, s.g, s.h]
def S8.ok (s : S8) : Prop := s.a < 4294967296 ∧ s.b < 4294967296 ∧ s.c < 4294967296 ∧ s.d < 4294967296 ∧ s.e < 4294967296 ∧ s.f < 4294967296 ∧ s.g < 4294967296 ∧ s.h < 4294967296
def kk : List Nat := [1116352408, 1899447441, 3049323471, 3921009573, 961987163, 1508970993, 2453635748, 2870763221, 3624381080, 310598401, 607225278, 1426881987, 1925078388, 2162078206, 2614888103, 3248222580, 3835390401, 4022224774, 264347078, 604807628, 770255983, 1249150122, 1555081692, 1996064986, 2554220882, 2821834349, 2952996808, 3210313671, 3336571891, 3584528711, 113926993, 338241895, 666307205, 773529912, 1294757372, 1396182291, 1695183700, 1986661051, 2177026350, 2456956037, 2730485921, 2820302411, 3259730800, 3345764771, 3516065817, 3600352804, 4094571909, 275423344, 430227734, 506948616, 659060556, 883997877, 958139571, 1322822218, 1537002063, 1747873779, 1955562222, 2024104815, 2227730452, 2361852424, 2428436474, 2756734187, 3204031479, 3329325298]
def chf (e f g : Nat) : Nat := (e &&& f) ||| ((4294967295 ^^^ e) &&& g)
def maj (a b c : Nat) : Nat := ((a &&& b) ||| (a &&& c)) ||| (b &&& c)
def tee (s : S8) (k w : Nat) : Nat := add32 (add32 (add32 (add32 s.h (rot3 6 11 25 s.e)) (chf s.e s.f s.g)) k) w
def rnd (s : S8) (k w : Nat) : S8 := ⟨add32 (add32 (tee s k w) (rot3 2 13 22 s.a)) (maj s.a s.b s.c), s.a, s.b, s.c, add32 s.d (tee s k w), s.e, s.f, s.g⟩
def rnds (blk : List UInt8) (s : S8) : Nat → S8
  | 0 => s
  | k + 1 => rnd (rnds blk s k) (kk.getD k 0) ((wl blk 64).getD k 0)
def sum8 (s r : S8) : S8 := ⟨add32 s.a r.a, add32 s.b r.b, add32 s.c r.c, add32 s.d r.d, add32 s.e r.e, add32 s.f r.f, add32 s.g r.g, add32 s.h r.h⟩
def mix (s : S8) (blk : List UInt8) : S8 := sum8 s (rnds blk s 64)
def init8 : S8 := ⟨1779033703, 3144134277, 1013904242, 2773480762, 1359893119, 2600822924, 528734635, 1541459225⟩
/-- the words behind the first k blocks. -/
def wsN (m : List UInt8) : Nat → S8
  | 0 => init8
  | k + 1 => mix (wsN m k) ((m.drop (64 * k)).take 64)
/-- a number's lowest n bytes, the highest ahead. -/
def hib (x : Nat) : Nat → List UInt8
  | 0 => []
  | n + 1 => UInt8.ofNat (x / 256 ^ n) :: hib x n
/-- what stands behind a text of n bytes. -/
def padding (n : Nat) : List UInt8 := 128 :: (List.replicate ((119 - n % 64) % 64) 0 ++ hib (8 * n) 8)
def padded (m : List UInt8) : List UInt8 := m ++ padding m.length
/-- the sum. -/
def sha (m : List UInt8) : List UInt8 := (wsN (padded m) ((padded m).length / 64)).l.flatMap fun w => hib w 4
theorem add32_lt (a b : Nat) : add32 a b < 4294967296 := Nat.mod_lt _ (by decide)
theorem add32_comm (a b : Nat) : add32 a b = add32 b a := by unfold add32; rw [Nat.add_comm]
theorem add32_assoc (a b c : Nat) : add32 (add32 a b) c = add32 a (add32 b c) := by unfold add32; omega
theorem or_lt {a b : Nat} (ha : a < 4294967296) (hb : b < 4294967296) : a ||| b < 4294967296 := Nat.or_lt_two_pow (n := 32) ha hb
theorem and_lt {a : Nat} (b : Nat) (ha : a < 4294967296) : a &&& b < 4294967296 := Nat.lt_of_le_of_lt Nat.and_le_left ha
theorem xor_lt' {a b : Nat} (ha : a < 4294967296) (hb : b < 4294967296) : a ^^^ b < 4294967296 := Nat.xor_lt_two_pow (n := 32) ha hb
theorem rotr_lt (n : Nat) {x : Nat} (h : x < 4294967296) : rotr n x < 4294967296 := or_lt (Nat.lt_of_le_of_lt (Nat.div_le_self _ _) h) (Nat.mod_lt _ (by decide))
theorem rot3_lt (i j k : Nat) {x : Nat} (h : x < 4294967296) : rot3 i j k x < 4294967296 := xor_lt' (xor_lt' (rotr_lt i h) (rotr_lt j h)) (rotr_lt k h)
theorem sh3_lt (i j k : Nat) {x : Nat} (h : x < 4294967296) : sh3 i j k x < 4294967296 := xor_lt' (xor_lt' (rotr_lt i h) (rotr_lt j h)) (Nat.lt_of_le_of_lt (Nat.div_le_self _ _) h)
theorem be4_lt (l : List UInt8) (i : Nat) : be4 l i < 4294967296 := by
  unfold be4
  have h0 := (l.getD i 0).toNat_lt
  have h1 := (l.getD (i + 1) 0).toNat_lt
  have h2 := (l.getD (i + 2) 0).toNat_lt
  have h3 := (l.getD (i + 3) 0).toNat_lt
  omega
theorem nextW_lt (blk : List UInt8) (w : List Nat) : nextW blk w < 4294967296 := by
  unfold nextW
  split
  · exact be4_lt _ _
  · exact add32_lt _ _
theorem wl_length (blk : List UInt8) : ∀ k, (wl blk k).length = k
  | 0 => rfl
  | k + 1 => by rw [wl, wstep, List.length_append, wl_length blk k]; rfl
theorem wl_lt (blk : List UInt8) : ∀ k, ∀ x ∈ wl blk k, x < 4294967296
  | 0, x, h => by cases h
  | k + 1, x, h => by
    rw [wl, wstep, List.mem_append] at h
    rcases h with h | h
    · exact wl_lt blk k x h
    · rw [List.mem_singleton] at h
      subst h
      exact nextW_lt _ _
theorem getD_lt {w : List Nat} (h : ∀ x ∈ w, x < 4294967296) (i : Nat) : w.getD i 0 < 4294967296 := by
  rw [List.getD_eq_getElem?_getD]
  cases hi : w[i]? with
  | none => simp
  | some x => exact h x (List.mem_of_getElem? hi)
theorem wl_getD_lt (blk : List UInt8) (k i : Nat) : (wl blk k).getD i 0 < 4294967296 := getD_lt (wl_lt blk k) i
theorem kk_lt (i : Nat) : kk.getD i 0 < 4294967296 := getD_lt (by decide) i
theorem chf_lt {e f g : Nat} (he : e < 4294967296) (_ : f < 4294967296) : chf e f g < 4294967296 := or_lt (and_lt _ he) (and_lt _ (xor_lt' (by decide) he))
theorem maj_lt {a b c : Nat} (ha : a < 4294967296) (hb : b < 4294967296) : maj a b c < 4294967296 := or_lt (or_lt (and_lt _ ha) (and_lt _ ha)) (and_lt _ hb)
theorem tee_lt (s : S8) (k w : Nat) : tee s k w < 4294967296 := add32_lt _ _
theorem rnd_ok {s : S8} (h : s.ok) (k w : Nat) : (rnd s k w).ok := by
  obtain ⟨h0, h1, h2, h3, h4, h5, h6, h7⟩ := h
  exact ⟨add32_lt _ _, h0, h1, h2, add32_lt _ _, h4, h5, h6⟩
theorem rnds_ok (blk : List UInt8) {s : S8} (h : s.ok) : ∀ k, (rnds blk s k).ok
  | 0 => h
  | k + 1 => rnd_ok (rnds_ok blk h k) _ _
theorem sum8_ok (s r : S8) : (sum8 s r).ok := ⟨add32_lt _ _, add32_lt _ _, add32_lt _ _, add32_lt _ _, add32_lt _ _, add32_lt _ _, add32_lt _ _, add32_lt _ _⟩
theorem mix_ok (s : S8) (blk : List UInt8) : (mix s blk).ok := sum8_ok _ _
theorem init8_ok : init8.ok := by unfold init8 S8.ok; decide
theorem wsN_ok (m : List UInt8) : ∀ k, (wsN m k).ok
  | 0 => init8_ok
  | _ + 1 => mix_ok _ _
theorem S8.ok_l {s : S8} (h : s.ok) : ∀ x ∈ s.l, x < 4294967296 := by
  obtain ⟨h0, h1, h2, h3, h4, h5, h6, h7⟩ := h
  intro x hx
  simp only [S8.l, List.mem_cons, List.not_mem_nil, or_false] at hx
  omega
theorem S8.length (s : S8) : s.l.length = 8 := rfl
theorem wsN_append (m r : List UInt8) : ∀ k, 64 * k ≤ m.length → wsN (m ++ r) k = wsN m k
  | 0, _ => rfl
  | k + 1, h => by
    rw [wsN, wsN, wsN_append m r k (by omega)]
    congr 1
    rw [List.drop_append_of_le_length (by omega), List.take_append_of_le_length (by rw [List.length_drop]; omega)]
theorem hib_length (x : Nat) : ∀ n, (hib x n).length = n
  | 0 => rfl
  | n + 1 => by rw [hib, List.length_cons, hib_length x n]
theorem padding_length (n : Nat) : (padding n).length = 9 + (119 - n % 64) % 64 := by simp [padding, hib_length]; omega
theorem padded_length (m : List UInt8) : (padded m).length = m.length + 9 + (119 - m.length % 64) % 64 := by rw [padded, List.length_append, padding_length]; omega
theorem padded_mod (m : List UInt8) : (padded m).length % 64 = 0 := by rw [padded_length]; omega
theorem sha_length (m : List UInt8) : (sha m).length = 32 := by simp [sha, S8.l, hib_length]
end Go.Proofs.YtlbmieeimnjncaaDoor
