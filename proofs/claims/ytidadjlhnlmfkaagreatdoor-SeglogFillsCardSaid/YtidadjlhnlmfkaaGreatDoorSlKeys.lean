/- The segments' numbers, and the names of a disk without files. Conditions: as stated at each. -/
import Derived.Test.YtidadjlhnlmfkaaGreatDoorLays
import Derived.Test.YtidadjlhnlmfkaaGreatDoorSlSeqS
import Derived.Test.YtidadjlhnlmfkaaGreatDoorSlState
namespace Go.Proofs.YtidadjlhnlmfkaaGreatDoor
open Go.RowKit Go.Shelf Go Go.Maps Go.Sort
theorem sorts64 (m : Nat) : AnyZI.SortsIn Tryz.prog Tryz.sorted64_ren Fence.wide m :=
  ⟨fun blk off cap ss W hH hblk hsz => callsIn_wide.2 (AnyM.slices_Sort_int Tryz.sort85 blk off cap ss W hH hblk hsz), fun p cap W => callsIn_wide.2 (AnyM.slices_Sort_int_none Tryz.sort85 p cap W)⟩
theorem sorts60 (m : Nat) : AnyZ.SortsIn Tryz.prog Tryz.sorted60_ren Fence.wide m :=
  ⟨fun blk off cap ss W hH hblk hsz => callsIn_wide.2 (AnyM.slices_Sort_string Tryz.sort82 blk off cap ss W hH hblk hsz), fun p cap W => callsIn_wide.2 (AnyM.slices_Sort_string_none Tryz.sort82 p cap W)⟩
theorem keys65_any (mb : Option Nat) (W : World) : Calls Tryz.prog 66 #[.map mb] W fun e w' => e = .returned (.func (.func 87) #[] #[.pointer (some ⟨W.heap.size, 0, none⟩)]) ∧ w' = W.alloc (.cells #[.map mb] 57) :=
  callsIn_wide.1 (AnyZI.keys_in Tryz.keys65 Fence.wide 5 trivial rfl mb W)
theorem keys61_any (mb : Option Nat) (W : World) : Calls Tryz.prog 62 #[.map mb] W fun e w' => e = .returned (.func (.func 84) #[] #[.pointer (some ⟨W.heap.size, 0, none⟩)]) ∧ w' = W.alloc (.cells #[.map mb] 53) :=
  callsIn_wide.1 (AnyZ.keys_in Tryz.keys61 Fence.wide 5 trivial rfl mb W)
set_option maxHeartbeats 1000000 in
theorem sorted64_any {H : Type} (b nn : Nat) (D0 : DataW H) (R : Value → Option (DataW H × List MemPlace)) (w : World) (hown : w.ownsMap Tryz.prog 3 R b nn D0) (hmax : Maps.size D0 ≤ 1000000000) :
    Calls Tryz.prog 65 #[.func (.func 87) #[] #[.pointer (some ⟨w.heap.size, 0, none⟩)]] (w.alloc (.cells #[.map (some b)] 57)) fun e w' => ∃ (v : Value) (ss : List Int), e = .returned v ∧ ss.Perm (intKeys D0) ∧
      w'.ownsRow (w.alloc (.cells #[.map (some b)] 57)).heap.size 3 1 v ss.length ((ss.mergeSort (fun x y => decide (x ≤ y))).map encZ) ∧ (v = .slice none 0 0 ↔ ss = []) ∧ Below (w.alloc (.cells #[.map (some b)] 57)).heap.size (w.alloc (.cells #[.map (some b)] 57)) w' := by
  have hbl := hown.lt
  have hseq : SeqGives Fence.wide 2 Tryz.prog 87 #[.pointer (some ⟨w.heap.size, 0, none⟩)] encZ (fun ss => ss.Perm (intKeys D0)) (Maps.size D0) (w.alloc (.cells #[.map (some b)] 57)) :=
    AnyZI.keys_gives (ρ := Tryz.keys65_ren) { Tryz.keys65 with } Fence.wide _ trivial rfl (by omega) w.heap.size b nn D0 _ (by simp) (by simp) (by
      obtain ⟨es, clock, hb, Ft, hs, hD⟩ := hown
      exact ⟨es, clock, (Below.heap_alloc _ _ b hbl).trans hb, Ft, hs, hD⟩)
  exact callsIn_wide.1 (AnyZI.sorted_in Tryz.sorted64 Fence.wide 5 trivial trivial trivial trivial rfl (by omega) (sorts64 _) (enters_of Tryz.func86 (by kernel_rfl) rfl) 87 #[.pointer (some ⟨w.heap.size, 0, none⟩)] trivial (enters_of Tryz.func87 (by kernel_rfl) rfl) _ _ (by unfold maxLen; omega) (by omega) _ hseq)
set_option maxHeartbeats 1000000 in
theorem sorted60_any {H : Type} (b nn : Nat) (D0 : DataW H) (R : Value → Option (DataW H × List MemPlace)) (w : World) (hown : w.ownsMap Tryz.prog 9 R b nn D0) (hmax : Maps.size D0 ≤ 1000000000) :
    Calls Tryz.prog 61 #[.func (.func 84) #[] #[.pointer (some ⟨w.heap.size, 0, none⟩)]] (w.alloc (.cells #[.map (some b)] 53)) fun e w' => ∃ (v : Value) (ss : List (List UInt8)), e = .returned v ∧ ss.Perm (strKeys D0) ∧
      w'.ownsRow (w.alloc (.cells #[.map (some b)] 53)).heap.size 9 1 v ss.length ((ss.mergeSort (fun x y => decide (x ≤ y))).map encStr) ∧ (v = .slice none 0 0 ↔ ss = []) ∧ Below (w.alloc (.cells #[.map (some b)] 53)).heap.size (w.alloc (.cells #[.map (some b)] 53)) w' := by
  have hbl := hown.lt
  have hseq : SeqGives Fence.wide 2 Tryz.prog 84 #[.pointer (some ⟨w.heap.size, 0, none⟩)] encStr (fun ss => ss.Perm (strKeys D0)) (Maps.size D0) (w.alloc (.cells #[.map (some b)] 53)) :=
    AnyZ.keys_gives (ρ := Tryz.keys61_ren) { Tryz.keys61 with } Fence.wide _ trivial rfl (by omega) w.heap.size b nn D0 _ (by simp) (by simp) (by
      obtain ⟨es, clock, hb, Ft, hs, hD⟩ := hown
      exact ⟨es, clock, (Below.heap_alloc _ _ b hbl).trans hb, Ft, hs, hD⟩)
  exact callsIn_wide.1 (AnyZ.sorted_in Tryz.sorted60 Fence.wide 5 trivial trivial trivial trivial rfl (by omega) (sorts60 _) (enters_of Tryz.func83 (by kernel_rfl) rfl) 84 #[.pointer (some ⟨w.heap.size, 0, none⟩)] trivial (enters_of Tryz.func84 (by kernel_rfl) rfl) _ _ (by unfold maxLen; omega) (by omega) _ hseq)
/-- the numbers from 1 on. -/
def nums (n : Nat) : List Int := (List.range n).map fun j : Nat => (j : Int) + 1
theorem nums_length (n : Nat) : (nums n).length = n := by simp [nums]
theorem nums_mem (n : Nat) (x : Int) : x ∈ nums n ↔ 1 ≤ x ∧ x ≤ n := by
  unfold nums
  rw [List.mem_map]
  constructor
  · rintro ⟨j, hj, rfl⟩
    rw [List.mem_range] at hj
    omega
  · rintro ⟨h1, h2⟩
    exact ⟨(x - 1).toNat, by rw [List.mem_range]; omega, by omega⟩
theorem nums_rising (n : Nat) : (nums n).Pairwise (fun a b => a < b) := by
  unfold nums
  rw [List.pairwise_map]
  exact List.pairwise_lt_range.imp fun h => by omega
theorem segs_perm {W : World} {G k : Nat} {D : DataW Value} {g : List (Nat × Nat)} (h : Held W Tryz.prog 3 G k D) (hg : SegD D g) : (nums g.length).Perm (intKeys D) := by
  obtain ⟨es, hD, hpw, _⟩ := World.ownsMap.entries h (int_keyed Tryz.underlying3)
  obtain ⟨es', hD', hko⟩ := World.ownsMap.keysOf h
  obtain rfl : es = es' := by rw [hD] at hD'; simpa using hD'
  subst hD
  exact perm_intKeys hpw (fun p hp => by obtain ⟨v, hv⟩ := hko p hp; obtain ⟨x, _, hx, _⟩ := Maps.keyOf_i64 Tryz.underlying3 hv; exact ⟨x, hx⟩) ((nums_rising _).imp fun h => by omega) (fun x => by rw [nums_mem]; exact (hg.1 x).symm)
theorem size_keys {H : Type} (D : DataW H) : Maps.size D = (intKeys D).length := by
  cases D <;> simp [Maps.size, intKeys]
theorem size_strs {H : Type} (D : DataW H) : Maps.size D = (strKeys D).length := by
  cases D <;> simp [Maps.size, strKeys]
theorem sort_nums (n : Nat) (ss : List Int) (h : ss.Perm (nums n)) : ss.mergeSort (fun x y => decide (x ≤ y)) = nums n := by
  have h1 := mergeSort_of_perm_i h
  have h2 : (nums n).mergeSort leI = nums n := List.mergeSort_of_pairwise ((nums_rising n).imp fun h => by simp [leI]; omega)
  exact h1.trans h2
theorem held_has {w : World} {P : Program} {k t e : TypeId} {b n : Nat} {D : DataW Value} {s : ByteArray} (h : Held w P k b n D) (hk : P.underlying k = some .string) (ht : P.underlying t = some (.map k e)) (hs : s.size ≤ maxLen) {z : Value} (hz : (zeroValue e).run P w = .ok z w) (ha : at_ D s = none) : has D (kOf s) = false := by
  obtain ⟨es, clock, hb, F, _, rfl⟩ := h
  have hkey : keyOf P k (.string s) = some (kOf s) := WideMaps.keyOf_string_mk hk hs
  rcases fit_look true (string_keyed hk) ht hz hb F hkey with ⟨_, _, hat⟩ | ⟨e0, y, _, _, _, hR, hat, _⟩
  · exact has_false_of_atKey hat
  · have hy : y = (.held e0.val, []) := by
      unfold rh at hR
      injection hR with hR
      exact hR.symm
    unfold at_ at ha
    rw [hat .nil, hy] at ha
    cases ha
theorem no_keys {W : World} {M k : Nat} {D : DataW Value} (h : MapIs W M k D) (ha : ∀ s, at_ D s = none) : strKeys D = [] := by
  have hle := strKeys_le h Tryz.underlying9
  cases hD : strKeys D with
  | nil => rfl
  | cons x r =>
    exfalso
    have hx : x ∈ strKeys D := by rw [hD]; simp
    have hl := hle x hx
    have hf := held_has (s := ⟨x.toArray⟩) h Tryz.underlying9 Tryz.underlying53 (by show x.toArray.size ≤ maxLen; simpa using hl) (zero58 W) (ha _)
    obtain ⟨es, rfl, hko⟩ := World.ownsMap.keysOf h
    obtain ⟨p, hp, hpx⟩ := List.mem_map.1 hx
    obtain ⟨v, hv⟩ := hko p hp
    obtain ⟨y, _, hy, _⟩ := Maps.keyOf_str Tryz.underlying9 hv
    rw [has_eq, List.any_eq_false] at hf
    refine hf p hp ?_
    rw [hy] at hpx ⊢
    have : y = x := hpx
    subst this
    simp [kOf, Lit.sameKey]
set_option maxHeartbeats 1000000 in
set_option maxRecDepth 20000 in
theorem numbers_L (W : World) (L Dk : Nat) (nm : ByteArray) (sz : Int) (G k : Nat) (last : Int) (dead : Bool) (g : List (Nat × Nat)) (hL : LogB W L Dk nm sz G last dead) (hG : SegM W G k g) (hl : g.length ≤ 1000000) :
    Calls Tryz.prog 39 #[.pointer (some ⟨L, 0, none⟩)] W fun e w' => ∃ V sv, e = .returned (.func (.func 85) #[] #[.pointer (some ⟨V, 0, none⟩)]) ∧ V < w'.heap.size ∧ w'.cell? ⟨V, 0, none⟩ = some sv ∧ HasI w'.heap.size w' sv (nums g.length) ∧ Below W.heap.size W w' := by
  have c3 := BlkIs.cell hL 3
  obtain ⟨D, hM, hD⟩ := hG
  have hp := segs_perm hM hD
  have hsz : Maps.size D ≤ 1000000000 := by rw [size_keys, ← hp.length_eq, nums_length]; omega
  have hso := Lib.hid (sorted64_any G k D rh W hM hsz)
  go_enter Tryz.func39, Tryz.ntmps39
  go_wp2_with (go_at_call 66; refine (keys65_any _ _).mono ?_; rintro e w' ⟨rfl, rfl⟩)
  refine hso.out.mono ?_
  rintro e w1 ⟨v, ss, rfl, hS, hrow, hnil, hbl⟩
  have hpp := hS.trans hp.symm
  rw [sort_nums _ _ hpp] at hrow
  have hlen : ss.length = (nums g.length).length := hpp.length_eq
  have hhas := has_of_own_I hrow hlen
  obtain ⟨A, cc, rfl, _, _⟩ := own_slice hrow
  have hb1 : Below W.heap.size W w1 := ((Below.refl _ W).alloc (Nat.le_refl _) _).trans (hbl.mono (by simp))
  have HH := Lib.hid hhas
  have HB := Lib.hid hb1
  clear hrow hnil hbl hS hhas hb1 hso hpp hlen hp
  go_wp2_with (go_at_call 64; refine (values_I _ _ _ _).mono ?_; rintro e w' ⟨rfl, rfl⟩)
  go_ret
  have hz := HB.out.size
  have hal := (Below.refl w1.heap.size w1).alloc (Nat.le_refl _) (.cells #[.slice A ss.length cc] 23)
  refine ⟨w1.heap.size, _, rfl, by simp, (BlkIs.new w1 23 _).cell 0, ?_, HB.out.alloc hz _⟩
  rcases HH.out.below hal with h | ⟨b, off, cap, h1, h2, h3⟩
  · exact .inl h
  · exact .inr ⟨b, off, cap, h1, by simp; omega, h3⟩
set_option maxHeartbeats 1000000 in
set_option maxRecDepth 20000 in
theorem dnames_none (W : World) (N : Nat) (Ft : Nat → Prop) (Dk k : Nat) (F : Files) (rm x lf : Int) (hS : DiskS W N Ft Dk k F rm x lf false) (hF : ∀ s, F s = none) :
    Calls Tryz.prog 33 #[.pointer (some ⟨Dk, 0, none⟩)] W fun e w' => ∃ V, e = .returned (.func (.func 81) #[] #[.pointer (some ⟨V, 0, none⟩)]) ∧ V < w'.heap.size ∧ w'.cell? ⟨V, 0, none⟩ = some (.slice none 0 0) ∧ Below W.heap.size W w' := by
  obtain ⟨M, D, hD, hM, f1, f2, hFi⟩ := hS
  have hk0 := no_keys hM (fun s => hFi.1 s (hF s))
  have hsz : Maps.size D ≤ 1000000000 := by rw [size_strs, hk0]; simp
  have hso := Lib.hid (sorted60_any M k D rh W hM hsz)
  have c0 := hD.cell 0
  go_enter Tryz.func33, Tryz.ntmps33
  go_wp2_with (go_at_call 62; refine (keys61_any _ _).mono ?_; rintro e w' ⟨rfl, rfl⟩)
  refine hso.out.mono ?_
  rintro e w1 ⟨v, ss, rfl, hS, hrow, hnil, hbl⟩
  rw [hk0] at hS
  obtain rfl : ss = [] := List.perm_nil.1 hS
  obtain rfl : v = .slice none 0 0 := hnil.2 rfl
  have hb1 : Below W.heap.size W w1 := ((Below.refl _ W).alloc (Nat.le_refl _) _).trans (hbl.mono (by simp))
  have HB := Lib.hid hb1
  clear hrow hnil hbl hS hb1 hso
  go_wp2_with (go_at_call 60; refine (values_S _ _ _ _).mono ?_; rintro e w' ⟨rfl, rfl⟩)
  go_ret
  exact ⟨w1.heap.size, rfl, by simp, (BlkIs.new w1 95 _).cell 0, HB.out.alloc HB.out.size _⟩
set_option maxHeartbeats 1000000 in
set_option maxRecDepth 20000 in
theorem names_none (W : World) (N : Nat) (Ft : Nat → Prop) (Dk k : Nat) (F : Files) (rm x lf : Int) (hS : DiskS W N Ft Dk k F rm x lf false) (hF : ∀ s, F s = none) :
    Calls Tryz.prog 75 #[.pointer (some ⟨Dk, 0, none⟩)] W fun e w' => (∃ A c, e = .returned (.slice A 0 c)) ∧ Below W.heap.size W w' := by
  have hd := Lib.hid (down_S W N Ft Dk k F rm x lf false hS)
  have hn := Lib.hid (dnames_none W N Ft Dk k F rm x lf hS hF)
  go_enter Tryz.func75, Tryz.ntmps75
  go_wp2_with (go_at_call 20; refine hd.out.mono ?_; rintro e w' ⟨rfl, rfl⟩)
  refine hn.out.mono ?_
  rintro e w1 ⟨V, rfl, h1, h2, h3⟩
  have hc := Lib.hid (collect_S w1 V _ [] (by simp) h1 h2 (.inl ⟨rfl, rfl⟩))
  go_wp2_with fail
  refine hc.out.mono ?_
  rintro e w2 ⟨v, rfl, h4, h5⟩
  obtain ⟨A, cc, rfl, _, _⟩ := own_slice h4
  clear h4
  go_wp2_with fail
  go_ret
  exact ⟨⟨_, _, rfl⟩, h3.trans (h5.mono h3.size)⟩
end Go.Proofs.YtidadjlhnlmfkaaGreatDoor
