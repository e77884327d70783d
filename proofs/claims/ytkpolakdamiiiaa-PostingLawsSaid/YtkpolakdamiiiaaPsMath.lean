/- Heaps of rising lists, pieces of lists that rise, numbers counted: plain lists. Conditions: none. -/
import Derived.Test.YtkpolakdamiiiaaDkMem
namespace Go.Proofs.Ytkpolakdamiiiaa
set_option maxRecDepth 100000
namespace Ps
open Go
/-- a heap's keys, by place. -/
def HpK (k : Nat → Int) (n : Nat) : Prop := ∀ i, 0 < i → i < n → k ((i - 1) / 2) ≤ k i
def UpK (k : Nat → Int) (n j : Nat) : Prop := (∀ i, 0 < i → i < n → i ≠ j → k ((i - 1) / 2) ≤ k i) ∧ (∀ i, 0 < i → i < n → (i - 1) / 2 = j → 0 < j → k ((j - 1) / 2) ≤ k i)
def DnK (k : Nat → Int) (n i : Nat) : Prop := (∀ c, 0 < c → c < n → (c - 1) / 2 ≠ i → k ((c - 1) / 2) ≤ k c) ∧ (∀ c, 0 < c → c < n → (c - 1) / 2 = i → 0 < i → k ((i - 1) / 2) ≤ k c)
def swK (k : Nat → Int) (i j : Nat) : Nat → Int := fun x => if x = i then k j else if x = j then k i else k x
theorem swK_l (k : Nat → Int) (i j : Nat) : swK k i j i = k j := by simp [swK]
theorem swK_r (k : Nat → Int) (i j : Nat) : swK k i j j = k i := by
  unfold swK
  split
  · rename_i h; rw [h]
  · simp
theorem swK_o (k : Nat → Int) {i j x : Nat} (h1 : x ≠ i) (h2 : x ≠ j) : swK k i j x = k x := by simp [swK, h1, h2]
theorem up_step {k : Nat → Int} {n j : Nat} (h : UpK k n j) (hj : 0 < j) (hn : j < n) (hk : k j < k ((j - 1) / 2)) : UpK (swK k ((j - 1) / 2) j) n ((j - 1) / 2) := by
  obtain ⟨p, hp⟩ : ∃ p, (j - 1) / 2 = p := ⟨_, rfl⟩
  rw [hp] at hk ⊢
  have hpj : p < j := by omega
  refine ⟨fun i h0 h1 hi => ?_, fun i h0 h1 hi hp0 => ?_⟩
  · by_cases hij : i = j
    · subst hij
      rw [hp, swK_l, swK_r]
      omega
    · rw [swK_o k hi hij]
      have a := h.1 i h0 h1 hij
      by_cases h2 : (i - 1) / 2 = p
      · rw [h2] at a
        rw [h2, swK_l]
        omega
      · by_cases h3 : (i - 1) / 2 = j
        · have b := h.2 i h0 h1 h3 hj
          rw [hp] at b
          rw [h3, swK_r]
          exact b
        · rw [swK_o k h2 h3]
          exact a
  · have c := h.1 p hp0 (by omega) (by omega)
    rw [swK_o k (x := (p - 1) / 2) (by omega) (by omega)]
    by_cases hij : i = j
    · subst hij
      rw [swK_r]
      exact c
    · have a := h.1 i h0 h1 hij
      rw [hi] at a
      rw [swK_o k (by omega) hij]
      omega
theorem up_end0 {k : Nat → Int} {n : Nat} (h : UpK k n 0) : HpK k n := fun i h0 h1 => h.1 i h0 h1 (by omega)
theorem up_end {k : Nat → Int} {n j : Nat} (h : UpK k n j) (hk : k ((j - 1) / 2) ≤ k j) : HpK k n := fun i h0 h1 => by
  by_cases hij : i = j
  · subst hij; exact hk
  · exact h.1 i h0 h1 hij
theorem dn_step {k : Nat → Int} {n i j : Nat} (h : DnK k n i) (hj : 0 < j) (hn : j < n) (hp : (j - 1) / 2 = i) (hk : k j < k i) (hm : ∀ c, 0 < c → c < n → (c - 1) / 2 = i → k j ≤ k c) : DnK (swK k i j) n j := by
  have hij : i < j := by omega
  refine ⟨fun c h0 h1 hc => ?_, fun c h0 h1 hc _ => ?_⟩
  · by_cases hcj : c = j
    · subst hcj
      rw [hp, swK_l, swK_r]
      omega
    · by_cases hci : c = i
      · subst hci
        have b := h.2 j hj hn hp h0
        rw [swK_l, swK_o k (by omega) (by omega)]
        exact b
      · rw [swK_o k hci hcj]
        by_cases h2 : (c - 1) / 2 = i
        · rw [h2, swK_l]
          exact hm c h0 h1 h2
        · rw [swK_o k h2 hc]
          exact h.1 c h0 h1 h2
  · have a := h.1 c h0 h1 (by omega)
    rw [hc] at a
    rw [hp, swK_l, swK_o k (by omega) (by omega)]
    exact a
theorem dn_end {k : Nat → Int} {n i : Nat} (h : DnK k n i) (hk : ∀ c, 0 < c → c < n → (c - 1) / 2 = i → k i ≤ k c) : HpK k n := fun c h0 h1 => by
  by_cases h2 : (c - 1) / 2 = i
  · rw [h2]; exact hk c h0 h1 h2
  · exact h.1 c h0 h1 h2
theorem up_of {k : Nat → Int} {n j : Nat} (h : HpK k j) (hn : n ≤ j + 1) : UpK k n j := ⟨fun i h0 h1 h2 => h i h0 (by omega), fun i h0 h1 h2 h3 => by omega⟩
theorem up_of_hp {k : Nat → Int} {n : Nat} (h : HpK k n) : UpK k n 0 := ⟨fun i h0 h1 _ => h i h0 h1, fun _ _ _ _ h => absurd h (by omega)⟩
theorem hp_root {k : Nat → Int} {n : Nat} (h : HpK k n) : ∀ i, i < n → k 0 ≤ k i := fun i => by
  induction i using Nat.strongRecOn with
  | _ i ih =>
    intro hi
    rcases Nat.eq_zero_or_pos i with h0 | h0
    · subst h0; exact Int.le_refl _
    · exact Int.le_trans (ih ((i - 1) / 2) (by omega) (by omega)) (h i h0 hi)
theorem hp_le {k : Nat → Int} {n m : Nat} (h : HpK k n) (hm : m ≤ n) : HpK k m := fun i h0 h1 => h i h0 (by omega)
theorem hp_congr {k k' : Nat → Int} {n : Nat} (h : HpK k n) (he : ∀ i, i < n → k' i = k i) : HpK k' n := fun i h0 h1 => by rw [he i h1, he _ (by omega)]; exact h i h0 h1
theorem up_congr {k k' : Nat → Int} {n j : Nat} (h : UpK k n j) (hj : j < n) (he : ∀ i, i < n → k' i = k i) : UpK k' n j :=
  ⟨fun i h0 h1 h2 => by rw [he i h1, he _ (by omega)]; exact h.1 i h0 h1 h2, fun i h0 h1 h2 h3 => by rw [he i h1, he _ (by omega)]; exact h.2 i h0 h1 h2 h3⟩
theorem dn_congr {k k' : Nat → Int} {n j : Nat} (h : DnK k n j) (he : ∀ i, i < n → k' i = k i) : DnK k' n j :=
  ⟨fun i h0 h1 h2 => by rw [he i h1, he _ (by omega)]; exact h.1 i h0 h1 h2, fun i h0 h1 h2 h3 => by rw [he i h1, he _ (by omega)]; exact h.2 i h0 h1 h2 h3⟩
/-- a heap whose first key is another now. -/
theorem dn_first {k k' : Nat → Int} {n : Nat} (h : HpK k n) (he : ∀ i, 0 < i → i < n → k' i = k i) : DnK k' n 0 :=
  ⟨fun c h0 h1 h2 => by rw [he c h0 h1, he _ (by omega) (by omega)]; exact h c h0 h1, fun _ _ _ _ h => absurd h (by omega)⟩
/-- what is left of a list: where it lies, its room, its numbers. -/
structure E where
  a : Option Addr
  c : Nat
  l : List Int
def E.key (e : E) : Int := e.l.headD 0
def E.val (e : E) : Value := .slice e.a e.l.length e.c
def E0 : E := ⟨none, 0, []⟩
def ky (H : List E) (i : Nat) : Int := (H.getD i E0).key
def swp (H : List E) (i j : Nat) : List E := (H.set i (H.getD j E0)).set j (H.getD i E0)
theorem getD_at {H : List E} {i : Nat} (h : i < H.length) : H.getD i E0 = H[i] := by rw [List.getD_eq_getElem?_getD, List.getElem?_eq_getElem h]; rfl
theorem swp_length (H : List E) (i j : Nat) : (swp H i j).length = H.length := by simp [swp]
theorem swp_perm {H : List E} {i j : Nat} (hi : i < H.length) (hj : j < H.length) : (swp H i j).Perm H := by
  unfold swp
  rw [getD_at hi, getD_at hj]
  exact List.set_set_perm hi hj
theorem swp_ky {H : List E} {i j : Nat} (hi : i < H.length) (hj : j < H.length) (x : Nat) : ky (swp H i j) x = swK (ky H) i j x := by
  unfold ky swp swK
  simp only [List.getD_eq_getElem?_getD, List.getElem?_set, List.length_set]
  by_cases h1 : x = i
  · subst h1
    by_cases h2 : j = x
    · subst h2; simp [hi]
    · simp [h2, hi]
  · by_cases h2 : x = j
    · subst h2
      simp [hj, h1]
    · simp [Ne.symm h1, Ne.symm h2, h1, h2]
theorem ky_lt {H : List E} {i : Nat} (h : i < H.length) : ky H i = (H[i]).key := by unfold ky; rw [getD_at h]
theorem ky_app {H : List E} {e : E} {i : Nat} (h : i < H.length) : ky (H ++ [e]) i = ky H i := by
  unfold ky
  rw [List.getD_eq_getElem?_getD, List.getD_eq_getElem?_getD, List.getElem?_append_left h]
theorem ky_take {H : List E} {n i : Nat} (h : i < n) : ky (H.take n) i = ky H i := by
  unfold ky
  rw [List.getD_eq_getElem?_getD, List.getD_eq_getElem?_getD, List.getElem?_take_of_lt h]
theorem ky_set {H : List E} {e : E} {i j : Nat} (h : j ≠ i) : ky (H.set i e) j = ky H j := by
  unfold ky
  rw [List.getD_eq_getElem?_getD, List.getD_eq_getElem?_getD, List.getElem?_set_ne (Ne.symm h)]
/-- all that is left. -/
def left (H : List E) : List Int := H.flatMap E.l
theorem left_perm {H H' : List E} (h : H.Perm H') : (left H).Perm (left H') := h.flatMap_right _
theorem left_app (H : List E) (e : E) : left (H ++ [e]) = left H ++ e.l := by simp [left]
/-- rising. -/
def Up (l : List Int) : Prop := l.Pairwise (· < ·)
/-- each list rises, and has something. -/
def Good (H : List E) : Prop := ∀ e ∈ H, e.l ≠ [] ∧ Up e.l
theorem Good.perm {H H' : List E} (h : Good H) (hp : H'.Perm H) : Good H' := fun e he => h e (hp.mem_iff.1 he)
theorem head_le {l : List Int} (h : Up l) {x : Int} (hx : x ∈ l) : l.headD 0 ≤ x := by
  rcases l with _ | ⟨a, l⟩
  · simp at hx
  · rcases List.mem_cons.1 hx with rfl | hx
    · exact Int.le_refl _
    · have := (List.pairwise_cons.1 h).1 x hx
      show a ≤ x
      omega
theorem root_le {H : List E} (hH : Good H) (hk : HpK (ky H) H.length) {x : Int} (hx : x ∈ left H) : ky H 0 ≤ x := by
  obtain ⟨e, he, hxe⟩ := List.mem_flatMap.1 hx
  obtain ⟨i, hi, rfl⟩ := List.mem_iff_getElem.1 he
  have h1 := hp_root hk i hi
  rw [ky_lt hi] at h1
  exact Int.le_trans h1 (head_le (hH _ he).2 hxe)
theorem root_mem {H : List E} (hH : Good H) (h0 : H ≠ []) : ky H 0 ∈ left H := by
  rcases H with _ | ⟨e, H⟩
  · exact absurd rfl h0
  · have he := (hH e (by simp)).1
    refine List.mem_flatMap.2 ⟨e, by simp, ?_⟩
    show e.l.headD 0 ∈ e.l
    rcases h : e.l with _ | ⟨a, l⟩
    · exact absurd h he
    · simp
/-- numbers in order. -/
def Srt (S : List Int) : Prop := S.Pairwise (· ≤ ·)
theorem root_head {H : List E} {n : Int} {S : List Int} (hH : Good H) (hk : HpK (ky H) H.length) (hS : Srt (n :: S)) (hp : (left H).Perm (n :: S)) : H ≠ [] ∧ ky H 0 = n := by
  have h0 : H ≠ [] := by
    rintro rfl
    have := hp.length_eq
    simp [left] at this
  refine ⟨h0, Int.le_antisymm (root_le hH hk (hp.mem_iff.2 (by simp))) ?_⟩
  have h1 := hp.mem_iff.1 (root_mem hH h0)
  rcases List.mem_cons.1 h1 with h1 | h1
  · omega
  · exact (List.pairwise_cons.1 hS).1 _ h1
theorem nil_iff {H : List E} {S : List Int} (hH : Good H) (hp : (left H).Perm S) : S = [] ↔ H = [] := by
  constructor
  · rintro rfl
    have h1 : left H = [] := List.Perm.eq_nil hp
    rcases H with _ | ⟨e, H⟩
    · rfl
    · have he := (hH e (by simp)).1
      have : left (e :: H) = e.l ++ left H := by simp [left]
      rw [this] at h1
      exact absurd (List.append_eq_nil_iff.1 h1).1 he
  · rintro rfl
    exact List.Perm.eq_nil hp.symm
/-- numbers in order, made so. -/
def insO (x : Int) : List Int → List Int
  | [] => [x]
  | y :: l => if x ≤ y then x :: y :: l else y :: insO x l
def srt : List Int → List Int
  | [] => []
  | x :: l => insO x (srt l)
theorem insO_perm (x : Int) : ∀ l, (insO x l).Perm (x :: l)
  | [] => List.Perm.refl _
  | y :: l => by
    unfold insO
    split
    · exact List.Perm.refl _
    · exact ((insO_perm x l).cons y).trans (List.Perm.swap x y l)
theorem insO_srt {x : Int} : ∀ {l}, Srt l → Srt (insO x l)
  | [], _ => by simp [insO, Srt]
  | y :: l, h => by
    have h1 := List.pairwise_cons.1 h
    unfold insO
    split
    · rename_i hx
      refine List.pairwise_cons.2 ⟨fun z hz => ?_, h⟩
      rcases List.mem_cons.1 hz with rfl | hz
      · exact hx
      · exact Int.le_trans hx (h1.1 z hz)
    · rename_i hx
      refine List.pairwise_cons.2 ⟨fun z hz => ?_, insO_srt h1.2⟩
      rcases List.mem_cons.1 ((insO_perm x l).mem_iff.1 hz) with rfl | hz
      · omega
      · exact h1.1 z hz
theorem srt_perm : ∀ l, (srt l).Perm l
  | [] => List.Perm.refl _
  | x :: l => (insO_perm x _).trans ((srt_perm l).cons x)
theorem srt_srt : ∀ l, Srt (srt l)
  | [] => List.Pairwise.nil
  | _ :: l => insO_srt (srt_srt l)
/-- how often the first one stands at the beginning; what stands behind. -/
def runN (n : Int) : List Int → Nat
  | [] => 0
  | x :: l => if x = n then runN n l + 1 else 0
def runT (n : Int) : List Int → List Int
  | [] => []
  | x :: l => if x = n then runT n l else x :: l
theorem runT_len (n : Int) : ∀ l, (runT n l).length ≤ l.length
  | [] => Nat.le_refl _
  | x :: l => by
    unfold runT
    split
    · have := runT_len n l
      simp
      omega
    · exact Nat.le_refl _
theorem runN_len (n : Int) : ∀ l, runN n l ≤ l.length
  | [] => Nat.le_refl _
  | x :: l => by
    have := runN_len n l
    unfold runN
    split
    · simp; omega
    · exact Nat.zero_le _
theorem runT_srt {n : Int} : ∀ {l}, Srt l → Srt (runT n l)
  | [], h => h
  | x :: l, h => by
    unfold runT
    split
    · exact runT_srt (List.pairwise_cons.1 h).2
    · exact h
theorem run_count {n : Int} : ∀ {l}, Srt l → (∀ x ∈ l, n ≤ x) → runN n l = l.count n ∧ (∀ x ∈ runT n l, n < x) ∧ ∀ x, n < x → (runT n l).count x = l.count x
  | [], _, _ => ⟨rfl, by simp [runT], fun _ _ => rfl⟩
  | x :: l, h, hn => by
    have h1 := List.pairwise_cons.1 h
    unfold runN runT
    by_cases hx : x = n
    · subst hx
      obtain ⟨a, b, c⟩ := run_count (n := x) h1.2 h1.1
      refine ⟨by simp [a], by simpa using b, fun y hy => ?_⟩
      rw [if_pos rfl, c y hy, List.count_cons_of_ne (by omega)]
    · have h2 : n < x := by have := hn x (by simp); omega
      refine ⟨?_, ?_, fun y hy => by rw [if_neg hx]⟩
      · rw [if_neg hx, List.count_eq_zero_of_not_mem]
        intro hm
        rcases List.mem_cons.1 hm with hm | hm
        · exact hx hm.symm
        · have := h1.1 n hm
          omega
      · rw [if_neg hx]
        intro y hy
        rcases List.mem_cons.1 hy with rfl | hy
        · exact h2
        · have := h1.1 y hy
          omega
/-- each number once, and how often it stands there. -/
def grp : List Int → List (Int × Nat)
  | [] => []
  | n :: l => (n, runN n l + 1) :: grp (runT n l)
termination_by l => l.length
decreasing_by
  have := runT_len n l
  simp
  omega
theorem grp_nil : grp [] = [] := by unfold grp; rfl
theorem grp_cons (n : Int) (l : List Int) : grp (n :: l) = (n, runN n l + 1) :: grp (runT n l) := by rw [grp]
theorem grp_facts : ∀ (m : Nat) (l : List Int), l.length ≤ m → Srt l → ((grp l).map Prod.fst).Pairwise (· < ·) ∧ ∀ n k, (n, k) ∈ grp l ↔ (k = l.count n ∧ 0 < k)
  | _, [], _, _ => ⟨by simp [grp_nil], fun n k => by simp [grp_nil]⟩
  | 0, n :: l, hm, _ => by simp at hm
  | m + 1, n :: l, hm, h => by
    have h1 := List.pairwise_cons.1 h
    obtain ⟨a, b, c⟩ := run_count (n := n) h1.2 h1.1
    obtain ⟨d, e⟩ := grp_facts m (runT n l) (by have := runT_len n l; simp at hm; omega) (runT_srt h1.2)
    rw [grp_cons]
    refine ⟨?_, fun x k => ?_⟩
    · rw [List.map_cons]
      refine List.pairwise_cons.2 ⟨fun y hy => ?_, d⟩
      obtain ⟨⟨y', k⟩, hk, rfl⟩ := List.mem_map.1 hy
      have := (e y' k).1 hk
      refine b y' (List.count_pos_iff.1 (by rw [← this.1]; exact this.2))
    · rw [List.mem_cons, e]
      rcases Int.lt_trichotomy x n with hx | hx | hx
      · have z1 : (n :: l).count x = 0 := List.count_eq_zero_of_not_mem (by
          intro hm
          rcases List.mem_cons.1 hm with hm | hm
          · omega
          · have := h1.1 x hm; omega)
        have z2 : (runT n l).count x = 0 := List.count_eq_zero_of_not_mem (fun hm => by have := b x hm; omega)
        rw [z1, z2]
        constructor
        · rintro (h | ⟨rfl, h⟩)
          · have := congrArg Prod.fst h; simp at this; omega
          · omega
        · rintro ⟨rfl, h⟩; omega
      · subst hx
        have z2 : (runT x l).count x = 0 := List.count_eq_zero_of_not_mem (fun hm => by have := b x hm; omega)
        rw [z2, List.count_cons_self, ← a]
        constructor
        · rintro (h | ⟨rfl, h⟩)
          · have := congrArg Prod.snd h; simp at this; omega
          · omega
        · rintro ⟨rfl, h⟩; exact .inl rfl
      · rw [c x hx, List.count_cons_of_ne (by omega)]
        constructor
        · rintro (h | h)
          · have := congrArg Prod.fst h; simp at this; omega
          · exact h
        · exact .inr
end Ps
end Go.Proofs.Ytkpolakdamiiiaa
