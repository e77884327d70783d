/- SlFile SlOrd. Conditions: as stated at each. -/
import Derived.Test.YtidadjlhnlmfkaaGreatDoorKt11
/- seglog.File at whatever name and number below a million. Conditions: as stated. -/
namespace Go.Proofs.YtidadjlhnlmfkaaGreatDoor
open Go.RowKit Go.Shelf Go
/-- the number's digit j, as a byte's number. -/
def dg (k j : Nat) : Int := 48 + (k / 10 ^ j % 10 : Nat)
/-- six digits. -/
def digs (k : Nat) : List UInt8 := [5, 4, 3, 2, 1, 0].map fun j => UInt8.ofNat (48 + k / 10 ^ j % 10)
/-- a segment's file. -/
def fileN (nm : ByteArray) (k : Nat) : ByteArray := nm ++ ⟨#[46]⟩ ++ str (digs k)
/-- the digits that are laid when i rounds are over. -/
def laidD (k i : Nat) (j : Nat) : Value := if j < i then .int .u8 (dg k j) else .int .u8 0
def rowD (k i : Nat) : Array Value := #[laidD k i 5, laidD k i 4, laidD k i 3, laidD k i 2, laidD k i 1, laidD k i 0]
theorem rowD_bv (k : Nat) : (rowD k 6).toList = bv (digs k) := by
  have h : ∀ j, Value.int .u8 (dg k j) = .int .u8 ((UInt8.ofNat (48 + k / 10 ^ j % 10)).toNat : Int) := fun j => by
    unfold dg
    have : k / 10 ^ j % 10 < 10 := Nat.mod_lt _ (by omega)
    congr 1
    simp
    omega
  simp [rowD, laidD, digs, bv, h]
theorem rowD_next (k i q : Nat) (hi : i < 6) (hq : q = k / 10 ^ i) : (rowD k i).setIfInBounds (5 - i) (.int .u8 (48 + (q : Int) % 10)) = rowD k (i + 1) := by
  have hv : Value.int .u8 (48 + (q : Int) % 10) = .int .u8 (dg k i) := by
    unfold dg
    rw [hq]
    simp
  rw [hv]
  obtain rfl | rfl | rfl | rfl | rfl | rfl : i = 0 ∨ i = 1 ∨ i = 2 ∨ i = 3 ∨ i = 4 ∨ i = 5 := by omega
  all_goals simp [rowD, laidD]
theorem div_next (k i q : Nat) (hq : q = k / 10 ^ i) : Value.int .i64 ((q : Int) / 10) = .int .i64 ((k / 10 ^ (i + 1) : Nat) : Int) := by
  rw [hq, Nat.pow_succ, ← Nat.div_div_eq_div_mul]
  rfl
theorem digs_length (k : Nat) : (digs k).length = 6 := rfl
set_option maxHeartbeats 1600000 in
set_option maxRecDepth 20000 in
theorem file_any (W : World) (nm : ByteArray) (k : Nat) (hk : k ≤ 999999) (hs : nm.size ≤ 1000000) :
    Calls Tryz.prog 19 #[.string nm, .int .i64 k] W fun e w' => e = .returned (.string (fileN nm k)) ∧ Below W.heap.size W w' := by
  go_enter Tryz.func19, Tryz.ntmps19
  go_wp2_with fail
  have hb0 := BlkIs.new W 86 #[.int .u8 0, .int .u8 0, .int .u8 0, .int .u8 0, .int .u8 0, .int .u8 0]
  go_loopw [1, 8] (fun x y wr => ∃ i q : Nat, i ≤ 6 ∧ q ≤ 999999 ∧ q = k / 10 ^ i ∧ x = .int .i64 q ∧ y = .int .i64 i ∧ BlkIs wr W.heap.size 86 (rowD k i) ∧ Below W.heap.size W wr) (fun _ y _ => 6 - (intOf y).toNat)
  case atStart => exact ⟨0, k, by omega, hk, by simp, rfl, rfl, hb0, (Below.refl _ W).alloc (Nat.le_refl _) _⟩
  case round =>
    obtain ⟨i, q, hi, hq, hqe, rfl, rfl, hb, hB⟩ := hrel
    have hfin : ∀ wr' : World, i < 6 → BlkIs wr' W.heap.size 86 ((rowD k i).setIfInBounds (5 - i) (.int .u8 (48 + (q : Int) % 10))) → Below W.heap.size W wr' →
        ∃ i' q' : Nat, i' ≤ 6 ∧ q' ≤ 999999 ∧ q' = k / 10 ^ i' ∧ Value.int .i64 ((q : Int) / 10) = .int .i64 q' ∧ Value.int .i64 ((i : Int) + 1) = .int .i64 i' ∧ BlkIs wr' W.heap.size 86 (rowD k i') ∧ Below W.heap.size W wr' := fun wr' hlt h1 h2 => by
      rw [rowD_next k i q hlt hqe] at h1
      refine ⟨i + 1, k / 10 ^ (i + 1), by omega, ?_, rfl, div_next k i q hqe, rfl, h1, h2⟩
      rw [Nat.pow_succ, ← Nat.div_div_eq_div_mul, ← hqe]
      omega
    have HF := Lib.hid hfin
    clear hfin
    have hset : ∀ (j : Nat) (v : Value), BlkIs (wr.setCell ⟨W.heap.size, j, none⟩ v) W.heap.size 86 ((rowD k i).setIfInBounds j v) := fun j v => hb.put j v
    have HS := Lib.hid hset
    have hbel : ∀ (j : Nat) (v : Value), Below W.heap.size W (wr.setCell ⟨W.heap.size, j, none⟩ v) := fun j v => hB.setCell (Nat.le_refl _) v
    have HL := Lib.hid hbel
    clear hset hbel hqe
    obtain rfl | rfl | rfl | rfl | rfl | rfl | rfl : i = 0 ∨ i = 1 ∨ i = 2 ∨ i = 3 ∨ i = 4 ∨ i = 5 ∨ i = 6 := by omega
    · have c5 := hb.cell 5
      have f5 := hb.froz 5
      go_wp2_with fail
      exact ⟨HF.out _ (by omega) (HS.out _ _) (HL.out _ _), by simp [intOf]⟩
    · have c5 := hb.cell 4
      have f5 := hb.froz 4
      go_wp2_with fail
      exact ⟨HF.out _ (by omega) (HS.out _ _) (HL.out _ _), by simp [intOf]⟩
    · have c5 := hb.cell 3
      have f5 := hb.froz 3
      go_wp2_with fail
      exact ⟨HF.out _ (by omega) (HS.out _ _) (HL.out _ _), by simp [intOf]⟩
    · have c5 := hb.cell 2
      have f5 := hb.froz 2
      go_wp2_with fail
      exact ⟨HF.out _ (by omega) (HS.out _ _) (HL.out _ _), by simp [intOf]⟩
    · have c5 := hb.cell 1
      have f5 := hb.froz 1
      go_wp2_with fail
      exact ⟨HF.out _ (by omega) (HS.out _ _) (HL.out _ _), by simp [intOf]⟩
    · have c5 := hb.cell 0
      have f5 := hb.froz 0
      go_wp2_with fail
      exact ⟨HF.out _ (by omega) (HS.out _ _) (HL.out _ _), by simp [intOf]⟩
    · have hbt : Bts wr wr.heap.size (some ⟨W.heap.size, 0, none⟩) (digs k) := fun j u hj => by
        rw [← rowD_bv] at hj
        have hj' : (rowD k 6)[j]? = some u := by simpa using hj
        exact ⟨_, rfl, hb.lt, by
          have := hb.cell j
          rw [hj'] at this
          rw [← this]
          unfold Addr.add
          by_cases h0 : j = 0 <;> simp [h0]⟩
      have hrun := run_str Tryz.prog Tryz.underlying26 Tryz.underlying5 Tryz.underlying9 6 hbt
      rw [digs_length] at hrun
      have hsd : ¬ 9223372036854775807 < nm.size + 1 + (str (digs k)).size := by
        have : (str (digs k)).size = 6 := rfl
        omega
      go_wp2_with fail
      go_ret
      exact ⟨rfl, hB⟩
theorem digs_byte (k : Nat) (b : UInt8) (hb : b ∈ digs k) : nb (b.toNat : Int) = true := by
  unfold digs at hb
  rw [List.mem_map] at hb
  obtain ⟨j, _, rfl⟩ := hb
  have : k / 10 ^ j % 10 < 10 := Nat.mod_lt _ (by omega)
  refine (nb_t ?_).symm
  simp
  omega
theorem digs_inj {j k : Nat} (hj : j ≤ 999999) (hk : k ≤ 999999) (h : digs j = digs k) : j = k := by
  have key : ∀ i, UInt8.ofNat (48 + j / 10 ^ i % 10) = UInt8.ofNat (48 + k / 10 ^ i % 10) → j / 10 ^ i % 10 = k / 10 ^ i % 10 := fun i e => by
    have h1 := Nat.mod_lt (j / 10 ^ i) (show 0 < 10 by omega)
    have h2 := Nat.mod_lt (k / 10 ^ i) (show 0 < 10 by omega)
    have := congrArg UInt8.toNat e
    simp at this
    omega
  simp only [digs, List.map_cons, List.map_nil, List.cons.injEq, and_true] at h
  obtain ⟨h5, h4, h3, h2, h1, h0⟩ := h
  have h5 := key 5 h5
  have h4 := key 4 h4
  have h3 := key 3 h3
  have h2 := key 2 h2
  have h1 := key 1 h1
  have h0 := key 0 h0
  simp at h5 h4 h3 h2 h1 h0
  omega
theorem fileN_inj {nm : ByteArray} {j k : Nat} (hj : j ≤ 999999) (hk : k ≤ 999999) (h : fileN nm j = fileN nm k) : j = k := by
  refine digs_inj hj hk ?_
  unfold fileN str at h
  have h' := congrArg (fun b : ByteArray => b.data.toList) h
  simpa using h'
theorem str_digs_size (k : Nat) : (str (digs k)).size = 6 := rfl
theorem fileN_size (nm : ByteArray) (k : Nat) : (fileN nm k).size = nm.size + 7 := by
  unfold fileN
  rw [ByteArray.size_append, ByteArray.size_append, str_digs_size]
  rfl
/-- the name of a log: it and what stands behind it may be files' names. -/
def nmOk (nm : ByteArray) : Prop := nm.size ≤ 53 ∧ nm.data.toList.all (fun c => nb c.toNat) = true
theorem nameB_of {s : ByteArray} (h1 : 1 ≤ s.size) (h2 : s.size ≤ 64) (h3 : s.data.toList.all (fun c => nb c.toNat) = true) : nameB s = true := by
  unfold nameB allNb
  rw [List.take_of_length_le (by simp)]
  simp [h1, h2]
  simpa using h3
theorem fileN_list (nm : ByteArray) (k : Nat) : (fileN nm k).data.toList = nm.data.toList ++ [46] ++ digs k := by
  unfold fileN str
  simp
theorem digs_all (k : Nat) : (digs k).all (fun c => nb c.toNat) = true := by
  rw [List.all_eq_true]
  exact fun b hb => digs_byte k b hb
theorem nameB_fileN {nm : ByteArray} (h : nmOk nm) (k : Nat) : nameB (fileN nm k) = true := by
  have hs := fileN_size nm k
  have := h.1
  refine nameB_of (by omega) (by omega) ?_
  rw [fileN_list, List.all_append, List.all_append, h.2, digs_all]
  decide
/-- what stands behind the name of a file that is to take a segment's place. -/
def spareB : ByteArray := ⟨#[46, 110, 101, 119]⟩
theorem nameB_spare {nm : ByteArray} (h : nmOk nm) (k : Nat) : nameB (fileN nm k ++ spareB) = true := by
  have hs := fileN_size nm k
  have h1 := h.1
  have hz : (fileN nm k ++ spareB).size = nm.size + 11 := by
    rw [ByteArray.size_append, hs]
    rfl
  refine nameB_of (by omega) (by omega) ?_
  have hl : (fileN nm k ++ spareB).data.toList = (fileN nm k).data.toList ++ [46, 110, 101, 119] := by
    unfold spareB
    simp
  rw [hl, List.all_append, fileN_list, List.all_append, List.all_append, h.2, digs_all]
  decide
theorem nmOk_x : nmOk ⟨#[120]⟩ := by unfold nmOk; decide
theorem nmOk_a : nmOk ⟨#[97]⟩ := by unfold nmOk; decide
end Go.Proofs.YtidadjlhnlmfkaaGreatDoor
/- The names of a log's segments, rising. Conditions: as stated at each. -/
namespace Go.Proofs.YtidadjlhnlmfkaaGreatDoor
open Go.RowKit Go.Shelf Go Go.Maps
theorem byte_lt {a b : Nat} (ha : a < 10) (hb : b < 10) (h : a < b) : UInt8.ofNat (48 + a) < UInt8.ofNat (48 + b) := by
  rw [UInt8.lt_iff_toNat_lt]
  simp
  omega
theorem lex_step {P a b da db ra rb : Nat} (ha : a = da * P + ra) (_ : ra < P) (hb : b = db * P + rb) (hab : a ≤ b) (hrb : rb < P := by exact Nat.mod_lt _ (by omega)) : da < db ∨ (da = db ∧ ra ≤ rb) := by
  rcases Nat.lt_trichotomy da db with h | h | h
  · exact .inl h
  · subst h
    exact .inr ⟨rfl, by omega⟩
  · have h1 : (db + 1) * P ≤ da * P := Nat.mul_le_mul_right P h
    rw [Nat.add_mul] at h1
    omega
theorem digs_le {j k : Nat} (h : j < k) (hk : k ≤ 999999) : digs j ≤ digs k := by
  have m5 : ∀ n i, n / 10 ^ i % 10 < 10 := fun n i => Nat.mod_lt _ (by omega)
  have p5 : (10 : Nat) ^ 5 = 100000 := rfl
  have p4 : (10 : Nat) ^ 4 = 10000 := rfl
  have p3 : (10 : Nat) ^ 3 = 1000 := rfl
  have p2 : (10 : Nat) ^ 2 = 100 := rfl
  have p1 : (10 : Nat) ^ 1 = 10 := rfl
  have p0 : (10 : Nat) ^ 0 = 1 := rfl
  have e5 : ∀ n, n ≤ 999999 → n = (n / 10 ^ 5 % 10) * 100000 + n % 100000 := fun n hn => by rw [p5]; omega
  have e4 : ∀ n, n % 100000 = (n / 10 ^ 4 % 10) * 10000 + n % 10000 := fun n => by rw [p4]; omega
  have e3 : ∀ n, n % 10000 = (n / 10 ^ 3 % 10) * 1000 + n % 1000 := fun n => by rw [p3]; omega
  have e2 : ∀ n, n % 1000 = (n / 10 ^ 2 % 10) * 100 + n % 100 := fun n => by rw [p2]; omega
  have e1 : ∀ n, n % 100 = (n / 10 ^ 1 % 10) * 10 + n % 10 := fun n => by rw [p1]; omega
  have e0 : ∀ n, n % 10 = (n / 10 ^ 0 % 10) * 1 + n % 1 := fun n => by rw [p0]; omega
  have step : ∀ (i : Nat) (a b : List UInt8), (j / 10 ^ i % 10 < k / 10 ^ i % 10 ∨ (j / 10 ^ i % 10 = k / 10 ^ i % 10 ∧ a ≤ b)) → (UInt8.ofNat (48 + j / 10 ^ i % 10) :: a) ≤ (UInt8.ofNat (48 + k / 10 ^ i % 10) :: b) := fun i a b h => by
    rw [List.cons_le_cons_iff]
    rcases h with h | ⟨h, h2⟩
    · exact .inl (byte_lt (m5 _ _) (m5 _ _) h)
    · exact .inr ⟨by rw [h], h2⟩
  show (UInt8.ofNat (48 + j / 10 ^ 5 % 10) :: UInt8.ofNat (48 + j / 10 ^ 4 % 10) :: UInt8.ofNat (48 + j / 10 ^ 3 % 10) :: UInt8.ofNat (48 + j / 10 ^ 2 % 10) :: UInt8.ofNat (48 + j / 10 ^ 1 % 10) :: UInt8.ofNat (48 + j / 10 ^ 0 % 10) :: []) ≤
    (UInt8.ofNat (48 + k / 10 ^ 5 % 10) :: UInt8.ofNat (48 + k / 10 ^ 4 % 10) :: UInt8.ofNat (48 + k / 10 ^ 3 % 10) :: UInt8.ofNat (48 + k / 10 ^ 2 % 10) :: UInt8.ofNat (48 + k / 10 ^ 1 % 10) :: UInt8.ofNat (48 + k / 10 ^ 0 % 10) :: [])
  refine step 5 _ _ ((lex_step (e5 j (by omega)) (Nat.mod_lt _ (by omega)) (e5 k hk) (Nat.le_of_lt h)).imp_right fun h => ⟨h.1, ?_⟩)
  refine step 4 _ _ ((lex_step (e4 j) (Nat.mod_lt _ (by omega)) (e4 k) h.2).imp_right fun h => ⟨h.1, ?_⟩)
  refine step 3 _ _ ((lex_step (e3 j) (Nat.mod_lt _ (by omega)) (e3 k) h.2).imp_right fun h => ⟨h.1, ?_⟩)
  refine step 2 _ _ ((lex_step (e2 j) (Nat.mod_lt _ (by omega)) (e2 k) h.2).imp_right fun h => ⟨h.1, ?_⟩)
  refine step 1 _ _ ((lex_step (e1 j) (Nat.mod_lt _ (by omega)) (e1 k) h.2).imp_right fun h => ⟨h.1, ?_⟩)
  exact step 0 _ _ ((lex_step (e0 j) (Nat.mod_lt _ (by omega)) (e0 k) h.2).imp_right fun h => ⟨h.1, List.nil_le _⟩)
theorem fileN_data (nm : ByteArray) (k : Nat) : (fileN nm k).data.toList = (nm.data.toList ++ [46]) ++ digs k := by
  unfold fileN
  simp [str]
theorem fileN_le {nm : ByteArray} {j k : Nat} (h : j < k) (hk : k ≤ 999999) : (fileN nm j).data.toList ≤ (fileN nm k).data.toList := by
  rw [fileN_data, fileN_data]
  exact List.append_left_le (digs_le h hk)
/-- the segments' files. -/
def segNames (nm : ByteArray) (m : Nat) : List ByteArray := (List.range m).map fun j => fileN nm (j + 1)
end Go.Proofs.YtidadjlhnlmfkaaGreatDoor
