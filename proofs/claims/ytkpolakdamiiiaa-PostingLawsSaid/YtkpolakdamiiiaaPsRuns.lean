/- The pieces of a list that rise: the iterator. Conditions: as stated at each. -/
import Derived.Test.YtkpolakdamiiiaaPsLaw
import Derived.Shelf.RegionOpen
namespace Go.Proofs.Ytkpolakdamiiiaa
set_option maxRecDepth 100000
namespace Ps
open Go.RowKit Go
attribute [local go_sem] Oper.semAt_some
/-- a piece ends behind place i. -/
def brk (l : List Int) (i : Nat) : Bool := !(decide (i + 1 < l.length) && decide (l.getD i 0 < l.getD (i + 1) 0))
def beg (l : List Int) : Nat → Nat
  | 0 => 0
  | k + 1 => if brk l k = true then k + 1 else beg l k
def rns (l : List Int) : Nat → List (Nat × Nat)
  | 0 => []
  | k + 1 => if brk l k = true then rns l k ++ [(beg l k, k + 1)] else rns l k
theorem beg_succ (l : List Int) (k : Nat) : beg l (k + 1) = if brk l k = true then k + 1 else beg l k := rfl
theorem rns_succ (l : List Int) (k : Nat) : rns l (k + 1) = if brk l k = true then rns l k ++ [(beg l k, k + 1)] else rns l k := rfl
theorem beg_le (l : List Int) : ∀ k, beg l k ≤ k
  | 0 => Nat.le_refl _
  | k + 1 => by
    unfold beg
    split
    · exact Nat.le_refl _
    · have := beg_le l k; omega
theorem rns_len (l : List Int) : ∀ k, (rns l k).length ≤ k
  | 0 => Nat.le_refl _
  | k + 1 => by
    have := rns_len l k
    unfold rns
    split
    · simp; omega
    · omega
theorem beg_up (l : List Int) : ∀ k i, beg l k ≤ i → i < k → brk l i = false
  | 0, i, _, h => by omega
  | k + 1, i, h1, h2 => by
    unfold beg at h1
    split at h1
    · omega
    · rename_i hb
      rcases Nat.lt_or_ge i k with h | h
      · exact beg_up l k i h1 h
      · rw [show i = k by omega]
        simpa using hb
theorem beg_zero (l : List Int) : ∀ k, rns l k = [] → beg l k = 0
  | 0, _ => rfl
  | k + 1, h => by
    unfold rns at h
    split at h
    · simp at h
    · rename_i hb
      unfold beg
      rw [if_neg hb]
      exact beg_zero l k h
/-- a piece's numbers. -/
def cutL (l : List Int) (x : Nat × Nat) : List Int := (l.drop x.1).take (x.2 - x.1)
theorem brk_no {l : List Int} {i : Nat} (h : brk l i = false) : i + 1 < l.length ∧ l.getD i 0 < l.getD (i + 1) 0 := by
  simp only [brk, Bool.not_eq_false', Bool.and_eq_true, decide_eq_true_eq] at h
  exact h
theorem brk_last {l : List Int} {i : Nat} (h : l.length ≤ i + 1) : brk l i = true := by
  unfold brk
  rw [decide_eq_false (by omega)]
  rfl
theorem up_cut {l : List Int} : ∀ (n b : Nat), b + n ≤ l.length → (∀ i, b ≤ i → i + 1 < b + n → l.getD i 0 < l.getD (i + 1) 0) → Up ((l.drop b).take n)
  | 0, _, _, _ => by simp [Up]
  | n + 1, b, hn, h => by
    rw [List.drop_eq_getElem_cons (by omega), List.take_succ_cons]
    have ih := up_cut n (b + 1) (by omega) (fun i h1 h2 => h i (by omega) (by omega))
    refine List.pairwise_cons.2 ⟨fun x hx => ?_, ih⟩
    rcases n with _ | n
    · simp at hx
    · have h1 := h b (Nat.le_refl _) (by omega)
      rw [show l.getD b 0 = l[b] by simp [List.getD, (show b < l.length by omega)]] at h1
      have h2 := head_le ih hx
      rw [List.drop_eq_getElem_cons (by omega), List.take_succ_cons] at h2
      rw [show l.getD (b + 1) 0 = l[b + 1] by simp [List.getD, (show b + 1 < l.length by omega)]] at h1
      have h3 : (l[b + 1] :: ((l.drop (b + 1 + 1)).take n)).headD 0 = l[b + 1] := rfl
      rw [h3] at h2
      omega
/-- what each piece is. -/
structure IsRun (l : List Int) (x : Nat × Nat) : Prop where
  lt : x.1 < x.2
  le : x.2 ≤ l.length
  up : Up (cutL l x)
  stop : x.2 = l.length ∨ ¬ l.getD (x.2 - 1) 0 < l.getD x.2 0
theorem rns_is (l : List Int) : ∀ k, k ≤ l.length → ∀ x ∈ rns l k, IsRun l x
  | 0, _, x, hx => by simp [rns] at hx
  | k + 1, hk, x, hx => by
    unfold rns at hx
    split at hx
    · rename_i hb
      rcases List.mem_append.1 hx with hx | hx
      · exact rns_is l k (by omega) x hx
      · rw [List.mem_singleton.1 hx]
        have h1 := beg_le l k
        refine ⟨by show beg l k < k + 1; omega, hk, ?_, ?_⟩
        · refine up_cut _ _ (by show beg l k + (k + 1 - beg l k) ≤ _; omega) (fun i h2 h3 => (brk_no (beg_up l k i h2 (by simp at h3; omega))).2)
        · show k + 1 = l.length ∨ ¬ l.getD (k + 1 - 1) 0 < l.getD (k + 1) 0
          rw [Nat.add_sub_cancel]
          rcases Nat.lt_or_ge (k + 1) l.length with h2 | h2
          · right
            intro h3
            unfold brk at hb
            rw [decide_eq_true h2, decide_eq_true h3] at hb
            simp at hb
          · left; omega
    · exact rns_is l k (by omega) x hx
theorem rns_all (l : List Int) : ∀ k, k ≤ l.length → (rns l k).flatMap (cutL l) = l.take (beg l k)
  | 0, _ => by simp [rns, beg]
  | k + 1, hk => by
    have ih := rns_all l k (by omega)
    have h1 := beg_le l k
    rw [rns_succ, beg_succ]
    split
    · rw [List.flatMap_append, ih]
      simp only [List.flatMap_cons, List.flatMap_nil, List.append_nil, cutL]
      rw [show l.take (k + 1) = l.take (beg l k + (k + 1 - beg l k)) by congr 1; omega, List.take_add]
    · exact ih
theorem beg_end (l : List Int) : beg l l.length = l.length := by
  rcases hl : l.length with _ | n
  · rfl
  · unfold beg
    rw [if_pos (brk_last (by omega))]
/-- a piece as it lies. -/
def runE (A : Option Addr) (c : Nat) (l : List Int) (x : Nat × Nat) : E := ⟨A.map (·.add x.1), c - x.1, cutL l x⟩
theorem runE_val {ad : Addr} {c b e : Nat} {l : List Int} (h : b ≤ e) (he : e ≤ l.length) : (runE (some ad) c l (b, e)).val = .slice (some (ad.add b)) (e - b) (c - b) := by
  unfold runE E.val cutL
  simp
  omega
/-- what a round leaves to the iterator. -/
def vq (D V : Nat) (i : Nat) (o : Obj) : Prop := o.isCells = false ∨ (D ≤ i ∧ i ≠ V)
set_option maxHeartbeats 6400000 in
theorem runs1_stops (n : Nat) (hn : 1 ≤ n) (w : World) {D V len c : Nat} {A : Option Addr} {l : List Int} (hV : w.cell? ⟨V, 0, none⟩ = some (.slice A len c)) (hl : l.length = len) (hc : len ≤ c) (hc2 : c ≤ maxLen) (hI : Ints w D A l) (hVw : w.heap[V]?.map Obj.isCells = some true) :
    SeqStopsK Fence.wide n Try.prog 26 #[.pointer (some ⟨V, 0, none⟩)] (fun x : { x // IsRun l x } => #[(runE A c l x.1).val]) (Tk (vq D V)) (fun xs => xs.map Subtype.val = rns l len) (fun pre => ∃ k, k ≤ len ∧ pre.map Subtype.val = rns l k) len w := fun lp J Jx W hW hJ hJx hY hJ0 => by
  have hT : Tk (vq D V) w W := Tk.of_below hW
  have HV : Hid (∀ X, Tk (vq D V) w X → X.cell? ⟨V, 0, none⟩ = some (.slice A len c)) := Lib.hid fun X hX => hX.cell hV (fun o ho hq => by
    rcases hq with hq | hq
    · rw [show w.heap[V]? = some o from ho] at hVw
      simp [hq] at hVw
    · exact hq.2 rfl)
  have HIX : Hid (∀ X, Tk (vq D V) w X → Ints X D A l) := Lib.hid fun X hX j u hj => by
    obtain ⟨ad, e, hb, hcell⟩ := hI j u hj
    refine ⟨ad, e, hb, hX.cell hcell (fun o ho hq => ?_)⟩
    rw [blk_add] at ho hq
    rcases hq with hq | hq
    · have := hcell
      unfold World.cell? at this
      rw [blk_add, ho] at this
      cases o <;> simp_all [Obj.isCells]
    · omega
  have HY := Lib.hid hY
  have HJ := Lib.hid hJ
  have HT0 := Lib.hid hT
  have HL := Lib.hid hl
  have v0 := HV.out W hT
  unfold maxLen at hc2
  clear hV hI hT hY hJ hJx hl hVw hW
  refine callsIn_of_wp Try.func26 rfl trivial ?_ rfl
  simp only [Try.ntmps26, List.size_toArray, List.length_cons, List.length_nil, Nat.reduceAdd, Nat.reduceSub, Array.replicate_succ, Array.replicate_zero, List.push_toArray, List.append_toArray, List.nil_append, List.cons_append]
  gi_wp2_with fail
  clear v0
  gi_loopw [3, 4, 7] (fun x _ y wr => ∃ k : Nat, x = .int .i64 (beg l k) ∧ y = .int .i64 k ∧ k ≤ len ∧ Hid ((∃ pre : List { x // IsRun l x }, pre.map Subtype.val = rns l k ∧ J pre wr) ∧ Tk (vq D V) w wr)) (fun _ _ y _ => len - (intOf y).toNat)
  case atStart => exact ⟨0, rfl, rfl, Nat.zero_le _, Lib.hid ⟨⟨[], rfl, hJ0⟩, HT0.out⟩⟩
  case round =>
    obtain ⟨k, rfl, rfl, hk, HR⟩ := hrel
    by_cases hlt : k < len
    · have v0 := HV.out wr HR.out.2
      obtain ⟨ad, hA, _, ck⟩ := (HIX.out wr HR.out.2).at_ (k := k) (by rw [HL.out]; exact hlt)
      subst hA
      have hbk := beg_le l k
      have hwr : IntKind.i64.wrap ((k : Int) + 1) = (k : Int) + 1 := by rw [IntKind.wrap_i64]; omega
      by_cases hmore : k + 1 < len
      · obtain ⟨ad2, hA2, _, ck1⟩ := (HIX.out wr HR.out.2).at_ (k := k + 1) (by rw [HL.out]; exact hmore)
        injection hA2 with hA2
        subst hA2
        replace ck1 : wr.cell? ⟨ad.block, ad.off + (k + 1), none⟩ = some (.int .i64 (l.getD (k + 1) 0)) := by simpa [Addr.add] using ck1
        by_cases hup : l.getD k 0 < l.getD (k + 1) 0
        · have hbr : brk l k = false := by unfold brk; rw [HL.out, decide_eq_true hmore, decide_eq_true hup]; rfl
          have HB := Lib.hid hbr
          clear hbr
          generalize l.getD k 0 = xk at *
          generalize l.getD (k + 1) 0 = xk1 at *
          gi_wp2_with fail
          refine regionIn_held_drew (S := (fun Y => Y.cell? ⟨V, 0, none⟩ = some (.slice (some ad) len c) ∧ Y.cell? (ad.add k) = some (.int .i64 xk) ∧ Y.cell? ⟨ad.block, ad.off + (k + 1), none⟩ = some (.int .i64 xk1))) (Wide.wide _ _) (by kernel_rfl) (by kernel_rfl) (⟨v0, ck, ck1⟩) (fun hHeld => ?_)
          refine wpAnyH_take (i := 0) (v := .int .i64 k) rfl (by kernel_rfl) (by kernel_rfl) (by kernel_rfl) (fun _ _ _ h => h) (Or.inl ⟨by rfl, fun w hS => by first | (go_simp; done) | (go_simp; with_reducible rfl)⟩) hHeld ?_
          try simp only [Act.put, List.getElem_toArray, List.getElem_cons_zero, List.setIfInBounds_toArray, List.set_cons_zero, List.set_cons_succ]
          refine wpAnyH_take (i := 1) (v := .int .i64 ((k : Int) + 1)) rfl (by kernel_rfl) (by kernel_rfl) (by kernel_rfl) (fun _ _ _ h => h) (Or.inl ⟨by rfl, fun w hS => by first | (go_simp; exact hwr) | (go_simp; done) | (go_simp; with_reducible rfl) | (go_simp; omega)⟩) hHeld ?_
          try simp only [Act.put, List.getElem_toArray, List.getElem_cons_zero, List.getElem_cons_succ, List.setIfInBounds_toArray, List.set_cons_zero, List.set_cons_succ]
          refine wpAnyH_take (i := 2) (v := .slice (some ad) len c) rfl (by kernel_rfl) (by kernel_rfl) (by kernel_rfl) (fun _ _ _ h => h) (Or.inl ⟨by rfl, fun w hS => by (have c := hS.1; first | (go_simp; exact hwr) | (go_simp; done) | (go_simp; with_reducible rfl) | (go_simp; omega))⟩) hHeld ?_
          try simp only [Act.put, List.getElem_toArray, List.getElem_cons_zero, List.getElem_cons_succ, List.setIfInBounds_toArray, List.set_cons_zero, List.set_cons_succ]
          refine wpAnyH_take (i := 3) (v := .int .i64 len) rfl (by kernel_rfl) (by kernel_rfl) (by kernel_rfl) (fun _ _ _ h => h) (Or.inl ⟨by rfl, fun w hS => by first | (go_simp; done) | (go_simp; with_reducible rfl)⟩) hHeld ?_
          try simp only [Act.put, List.getElem_toArray, List.getElem_cons_zero, List.getElem_cons_succ, List.setIfInBounds_toArray, List.set_cons_zero, List.set_cons_succ]
          refine wpAnyH_take (i := 4) (v := .bool true) rfl (by kernel_rfl) (by kernel_rfl) (by kernel_rfl) (fun _ _ _ h => h) (Or.inl ⟨by rfl, fun w hS => by first | (go_simp; exact hwr) | (go_simp; done) | (go_simp; with_reducible rfl) | (go_simp; omega)⟩) hHeld ?_
          try simp only [Act.put, List.getElem_toArray, List.getElem_cons_zero, List.getElem_cons_succ, List.setIfInBounds_toArray, List.set_cons_zero, List.set_cons_succ]
          refine wpAnyH_take (i := 5) (v := .bool true) rfl (by kernel_rfl) (by kernel_rfl) (by kernel_rfl) (fun _ _ _ h => h) (Or.inl ⟨by rfl, fun w hS => by first | (go_simp; done) | (go_simp; with_reducible rfl)⟩) hHeld ?_
          try simp only [Act.put, List.getElem_toArray, List.getElem_cons_zero, List.getElem_cons_succ, List.setIfInBounds_toArray, List.set_cons_zero, List.set_cons_succ]
          refine wpAnyH_take (i := 6) (v := .slice (some ad) len c) rfl (by kernel_rfl) (by kernel_rfl) (by kernel_rfl) (fun _ _ _ h => h) (Or.inl ⟨by rfl, fun w hS => by (have c := hS.1; first | (go_simp; exact hwr) | (go_simp; done) | (go_simp; with_reducible rfl) | (go_simp; omega))⟩) hHeld ?_
          try simp only [Act.put, List.getElem_toArray, List.getElem_cons_zero, List.getElem_cons_succ, List.setIfInBounds_toArray, List.set_cons_zero, List.set_cons_succ]
          refine wpAnyH_take (i := 7) (v := .int .i64 k) rfl (by kernel_rfl) (by kernel_rfl) (by kernel_rfl) (fun _ _ _ h => h) (Or.inl ⟨by rfl, fun w hS => by first | (go_simp; done) | (go_simp; with_reducible rfl)⟩) hHeld ?_
          try simp only [Act.put, List.getElem_toArray, List.getElem_cons_zero, List.getElem_cons_succ, List.setIfInBounds_toArray, List.set_cons_zero, List.set_cons_succ]
          refine wpAnyH_take (i := 8) (v := .pointer (some (ad.add k))) rfl (by kernel_rfl) (by kernel_rfl) (by kernel_rfl) (fun _ _ _ h => h) (Or.inl ⟨by rfl, fun w hS => by first | (go_simp; exact hwr) | (go_simp; done) | (go_simp; with_reducible rfl) | (go_simp; omega)⟩) hHeld ?_
          try simp only [Act.put, List.getElem_toArray, List.getElem_cons_zero, List.getElem_cons_succ, List.setIfInBounds_toArray, List.set_cons_zero, List.set_cons_succ]
          refine wpAnyH_take (i := 9) (v := .int .i64 xk) rfl (by kernel_rfl) (by kernel_rfl) (by kernel_rfl) (fun _ _ _ h => h) (Or.inl ⟨by rfl, fun w hS => by (have c := hS.2.1; first | (go_simp; exact hwr) | (go_simp; done) | (go_simp; with_reducible rfl) | (go_simp; omega))⟩) hHeld ?_
          try simp only [Act.put, List.getElem_toArray, List.getElem_cons_zero, List.getElem_cons_succ, List.setIfInBounds_toArray, List.set_cons_zero, List.set_cons_succ]
          refine wpAnyH_take (i := 10) (v := .slice (some ad) len c) rfl (by kernel_rfl) (by kernel_rfl) (by kernel_rfl) (fun _ _ _ h => h) (Or.inl ⟨by rfl, fun w hS => by (have c := hS.1; first | (go_simp; exact hwr) | (go_simp; done) | (go_simp; with_reducible rfl) | (go_simp; omega))⟩) hHeld ?_
          try simp only [Act.put, List.getElem_toArray, List.getElem_cons_zero, List.getElem_cons_succ, List.setIfInBounds_toArray, List.set_cons_zero, List.set_cons_succ]
          refine wpAnyH_take (i := 11) (v := .int .i64 k) rfl (by kernel_rfl) (by kernel_rfl) (by kernel_rfl) (fun _ _ _ h => h) (Or.inl ⟨by rfl, fun w hS => by first | (go_simp; done) | (go_simp; with_reducible rfl)⟩) hHeld ?_
          try simp only [Act.put, List.getElem_toArray, List.getElem_cons_zero, List.getElem_cons_succ, List.setIfInBounds_toArray, List.set_cons_zero, List.set_cons_succ]
          refine wpAnyH_take (i := 12) (v := .int .i64 ((k : Int) + 1)) rfl (by kernel_rfl) (by kernel_rfl) (by kernel_rfl) (fun _ _ _ h => h) (Or.inl ⟨by rfl, fun w hS => by first | (go_simp; exact hwr) | (go_simp; done) | (go_simp; with_reducible rfl) | (go_simp; omega)⟩) hHeld ?_
          try simp only [Act.put, List.getElem_toArray, List.getElem_cons_zero, List.getElem_cons_succ, List.setIfInBounds_toArray, List.set_cons_zero, List.set_cons_succ]
          refine wpAnyH_take (i := 13) (v := .pointer (some ⟨ad.block, ad.off + (k + 1), none⟩)) rfl (by kernel_rfl) (by kernel_rfl) (by kernel_rfl) (fun _ _ _ h => h) (Or.inl ⟨by rfl, fun w hS => by first | (go_simp; exact hwr) | (go_simp; done) | (go_simp; with_reducible rfl) | (go_simp; omega)⟩) hHeld ?_
          try simp only [Act.put, List.getElem_toArray, List.getElem_cons_zero, List.getElem_cons_succ, List.setIfInBounds_toArray, List.set_cons_zero, List.set_cons_succ]
          refine wpAnyH_take (i := 14) (v := .int .i64 xk1) rfl (by kernel_rfl) (by kernel_rfl) (by kernel_rfl) (fun _ _ _ h => h) (Or.inl ⟨by rfl, fun w hS => by (have c := hS.2.2; first | (go_simp; exact hwr) | (go_simp; done) | (go_simp; with_reducible rfl) | (go_simp; omega))⟩) hHeld ?_
          try simp only [Act.put, List.getElem_toArray, List.getElem_cons_zero, List.getElem_cons_succ, List.setIfInBounds_toArray, List.set_cons_zero, List.set_cons_succ]
          refine wpAnyH_take (i := 15) (v := .bool true) rfl (by kernel_rfl) (by kernel_rfl) (by kernel_rfl) (fun _ _ _ h => h) (Or.inl ⟨by rfl, fun w hS => by first | (go_simp; exact hwr) | (go_simp; done) | (go_simp; with_reducible rfl) | (go_simp; omega)⟩) hHeld ?_
          try simp only [Act.put, List.getElem_toArray, List.getElem_cons_zero, List.getElem_cons_succ, List.setIfInBounds_toArray, List.set_cons_zero, List.set_cons_succ]
          refine wpAnyH_take (i := 16) (v := .bool true) rfl (by kernel_rfl) (by kernel_rfl) (by kernel_rfl) (fun _ _ _ h => h) (Or.inl ⟨by rfl, fun w hS => by first | (go_simp; exact hwr) | (go_simp; done) | (go_simp; with_reducible rfl) | (go_simp; omega)⟩) hHeld ?_
          try simp only [Act.put, List.getElem_toArray, List.getElem_cons_zero, List.getElem_cons_succ, List.setIfInBounds_toArray, List.set_cons_zero, List.set_cons_succ]
          refine wpAnyH_done (by kernel_rfl) (NormalAt.mk ?_) _
          gi_wp2_with fail
          go_roundw
          case rel => exact ⟨k + 1, by rw [beg_succ, HB.out]; rfl, by go_num, by omega, Lib.hid ⟨by obtain ⟨pre, hpre, hJp⟩ := HR.out.1; exact ⟨pre, by rw [rns_succ, HB.out]; exact hpre, HJ.out _ _ _ none hJp ⟨rfl, rfl, rfl, Nat.le_refl _, fun _ _ _ => rfl⟩ (fun r e => by cases e)⟩, HR.out.2.drew⟩⟩
          case measure => simp [intOf]; omega
        · have hbr : brk l k = true := by unfold brk; rw [HL.out, decide_eq_true hmore, decide_eq_false hup]; rfl
          have HB := Lib.hid hbr
          clear hbr
          generalize l.getD k 0 = xk at *
          generalize l.getD (k + 1) 0 = xk1 at *
          gi_wp2_with fail
          refine regionIn_held_drew (S := (fun Y => Y.cell? ⟨V, 0, none⟩ = some (.slice (some ad) len c) ∧ Y.cell? (ad.add k) = some (.int .i64 xk) ∧ Y.cell? ⟨ad.block, ad.off + (k + 1), none⟩ = some (.int .i64 xk1))) (Wide.wide _ _) (by kernel_rfl) (by kernel_rfl) (⟨v0, ck, ck1⟩) (fun hHeld => ?_)
          refine wpAnyH_take (i := 0) (v := .int .i64 k) rfl (by kernel_rfl) (by kernel_rfl) (by kernel_rfl) (fun _ _ _ h => h) (Or.inl ⟨by rfl, fun w hS => by first | (go_simp; done) | (go_simp; with_reducible rfl)⟩) hHeld ?_
          try simp only [Act.put, List.getElem_toArray, List.getElem_cons_zero, List.setIfInBounds_toArray, List.set_cons_zero, List.set_cons_succ]
          refine wpAnyH_take (i := 1) (v := .int .i64 ((k : Int) + 1)) rfl (by kernel_rfl) (by kernel_rfl) (by kernel_rfl) (fun _ _ _ h => h) (Or.inl ⟨by rfl, fun w hS => by first | (go_simp; exact hwr) | (go_simp; done) | (go_simp; with_reducible rfl) | (go_simp; omega)⟩) hHeld ?_
          try simp only [Act.put, List.getElem_toArray, List.getElem_cons_zero, List.getElem_cons_succ, List.setIfInBounds_toArray, List.set_cons_zero, List.set_cons_succ]
          refine wpAnyH_take (i := 2) (v := .slice (some ad) len c) rfl (by kernel_rfl) (by kernel_rfl) (by kernel_rfl) (fun _ _ _ h => h) (Or.inl ⟨by rfl, fun w hS => by (have c := hS.1; first | (go_simp; exact hwr) | (go_simp; done) | (go_simp; with_reducible rfl) | (go_simp; omega))⟩) hHeld ?_
          try simp only [Act.put, List.getElem_toArray, List.getElem_cons_zero, List.getElem_cons_succ, List.setIfInBounds_toArray, List.set_cons_zero, List.set_cons_succ]
          refine wpAnyH_take (i := 3) (v := .int .i64 len) rfl (by kernel_rfl) (by kernel_rfl) (by kernel_rfl) (fun _ _ _ h => h) (Or.inl ⟨by rfl, fun w hS => by first | (go_simp; done) | (go_simp; with_reducible rfl)⟩) hHeld ?_
          try simp only [Act.put, List.getElem_toArray, List.getElem_cons_zero, List.getElem_cons_succ, List.setIfInBounds_toArray, List.set_cons_zero, List.set_cons_succ]
          refine wpAnyH_take (i := 4) (v := .bool true) rfl (by kernel_rfl) (by kernel_rfl) (by kernel_rfl) (fun _ _ _ h => h) (Or.inl ⟨by rfl, fun w hS => by first | (go_simp; exact hwr) | (go_simp; done) | (go_simp; with_reducible rfl) | (go_simp; omega)⟩) hHeld ?_
          try simp only [Act.put, List.getElem_toArray, List.getElem_cons_zero, List.getElem_cons_succ, List.setIfInBounds_toArray, List.set_cons_zero, List.set_cons_succ]
          refine wpAnyH_take (i := 5) (v := .bool true) rfl (by kernel_rfl) (by kernel_rfl) (by kernel_rfl) (fun _ _ _ h => h) (Or.inl ⟨by rfl, fun w hS => by first | (go_simp; done) | (go_simp; with_reducible rfl)⟩) hHeld ?_
          try simp only [Act.put, List.getElem_toArray, List.getElem_cons_zero, List.getElem_cons_succ, List.setIfInBounds_toArray, List.set_cons_zero, List.set_cons_succ]
          refine wpAnyH_take (i := 6) (v := .slice (some ad) len c) rfl (by kernel_rfl) (by kernel_rfl) (by kernel_rfl) (fun _ _ _ h => h) (Or.inl ⟨by rfl, fun w hS => by (have c := hS.1; first | (go_simp; exact hwr) | (go_simp; done) | (go_simp; with_reducible rfl) | (go_simp; omega))⟩) hHeld ?_
          try simp only [Act.put, List.getElem_toArray, List.getElem_cons_zero, List.getElem_cons_succ, List.setIfInBounds_toArray, List.set_cons_zero, List.set_cons_succ]
          refine wpAnyH_take (i := 7) (v := .int .i64 k) rfl (by kernel_rfl) (by kernel_rfl) (by kernel_rfl) (fun _ _ _ h => h) (Or.inl ⟨by rfl, fun w hS => by first | (go_simp; done) | (go_simp; with_reducible rfl)⟩) hHeld ?_
          try simp only [Act.put, List.getElem_toArray, List.getElem_cons_zero, List.getElem_cons_succ, List.setIfInBounds_toArray, List.set_cons_zero, List.set_cons_succ]
          refine wpAnyH_take (i := 8) (v := .pointer (some (ad.add k))) rfl (by kernel_rfl) (by kernel_rfl) (by kernel_rfl) (fun _ _ _ h => h) (Or.inl ⟨by rfl, fun w hS => by first | (go_simp; exact hwr) | (go_simp; done) | (go_simp; with_reducible rfl) | (go_simp; omega)⟩) hHeld ?_
          try simp only [Act.put, List.getElem_toArray, List.getElem_cons_zero, List.getElem_cons_succ, List.setIfInBounds_toArray, List.set_cons_zero, List.set_cons_succ]
          refine wpAnyH_take (i := 9) (v := .int .i64 xk) rfl (by kernel_rfl) (by kernel_rfl) (by kernel_rfl) (fun _ _ _ h => h) (Or.inl ⟨by rfl, fun w hS => by (have c := hS.2.1; first | (go_simp; exact hwr) | (go_simp; done) | (go_simp; with_reducible rfl) | (go_simp; omega))⟩) hHeld ?_
          try simp only [Act.put, List.getElem_toArray, List.getElem_cons_zero, List.getElem_cons_succ, List.setIfInBounds_toArray, List.set_cons_zero, List.set_cons_succ]
          refine wpAnyH_take (i := 10) (v := .slice (some ad) len c) rfl (by kernel_rfl) (by kernel_rfl) (by kernel_rfl) (fun _ _ _ h => h) (Or.inl ⟨by rfl, fun w hS => by (have c := hS.1; first | (go_simp; exact hwr) | (go_simp; done) | (go_simp; with_reducible rfl) | (go_simp; omega))⟩) hHeld ?_
          try simp only [Act.put, List.getElem_toArray, List.getElem_cons_zero, List.getElem_cons_succ, List.setIfInBounds_toArray, List.set_cons_zero, List.set_cons_succ]
          refine wpAnyH_take (i := 11) (v := .int .i64 k) rfl (by kernel_rfl) (by kernel_rfl) (by kernel_rfl) (fun _ _ _ h => h) (Or.inl ⟨by rfl, fun w hS => by first | (go_simp; done) | (go_simp; with_reducible rfl)⟩) hHeld ?_
          try simp only [Act.put, List.getElem_toArray, List.getElem_cons_zero, List.getElem_cons_succ, List.setIfInBounds_toArray, List.set_cons_zero, List.set_cons_succ]
          refine wpAnyH_take (i := 12) (v := .int .i64 ((k : Int) + 1)) rfl (by kernel_rfl) (by kernel_rfl) (by kernel_rfl) (fun _ _ _ h => h) (Or.inl ⟨by rfl, fun w hS => by first | (go_simp; exact hwr) | (go_simp; done) | (go_simp; with_reducible rfl) | (go_simp; omega)⟩) hHeld ?_
          try simp only [Act.put, List.getElem_toArray, List.getElem_cons_zero, List.getElem_cons_succ, List.setIfInBounds_toArray, List.set_cons_zero, List.set_cons_succ]
          refine wpAnyH_take (i := 13) (v := .pointer (some ⟨ad.block, ad.off + (k + 1), none⟩)) rfl (by kernel_rfl) (by kernel_rfl) (by kernel_rfl) (fun _ _ _ h => h) (Or.inl ⟨by rfl, fun w hS => by first | (go_simp; exact hwr) | (go_simp; done) | (go_simp; with_reducible rfl) | (go_simp; omega)⟩) hHeld ?_
          try simp only [Act.put, List.getElem_toArray, List.getElem_cons_zero, List.getElem_cons_succ, List.setIfInBounds_toArray, List.set_cons_zero, List.set_cons_succ]
          refine wpAnyH_take (i := 14) (v := .int .i64 xk1) rfl (by kernel_rfl) (by kernel_rfl) (by kernel_rfl) (fun _ _ _ h => h) (Or.inl ⟨by rfl, fun w hS => by (have c := hS.2.2; first | (go_simp; exact hwr) | (go_simp; done) | (go_simp; with_reducible rfl) | (go_simp; omega))⟩) hHeld ?_
          try simp only [Act.put, List.getElem_toArray, List.getElem_cons_zero, List.getElem_cons_succ, List.setIfInBounds_toArray, List.set_cons_zero, List.set_cons_succ]
          refine wpAnyH_take (i := 15) (v := .bool false) rfl (by kernel_rfl) (by kernel_rfl) (by kernel_rfl) (fun _ _ _ h => h) (Or.inl ⟨by rfl, fun w hS => by first | (go_simp; exact hwr) | (go_simp; done) | (go_simp; with_reducible rfl) | (go_simp; omega)⟩) hHeld ?_
          try simp only [Act.put, List.getElem_toArray, List.getElem_cons_zero, List.getElem_cons_succ, List.setIfInBounds_toArray, List.set_cons_zero, List.set_cons_succ]
          refine wpAnyH_take (i := 16) (v := .bool false) rfl (by kernel_rfl) (by kernel_rfl) (by kernel_rfl) (fun _ _ _ h => h) (Or.inl ⟨by rfl, fun w hS => by first | (go_simp; exact hwr) | (go_simp; done) | (go_simp; with_reducible rfl) | (go_simp; omega)⟩) hHeld ?_
          try simp only [Act.put, List.getElem_toArray, List.getElem_cons_zero, List.getElem_cons_succ, List.setIfInBounds_toArray, List.set_cons_zero, List.set_cons_succ]
          refine wpAnyH_done (by kernel_rfl) (NormalAt.mk ?_) _
          have hT2 : Tk (vq D V) w wr.drew := HR.out.2.drew
          obtain ⟨pre, hpre, hJp⟩ := HR.out.1
          have hJ2 : J pre wr.drew := HJ.out _ _ _ none hJp ⟨rfl, rfl, rfl, Nat.le_refl _, fun _ _ _ => rfl⟩ (fun r e => by cases e)
          have hrun : IsRun l (beg l k, k + 1) := rns_is l (k + 1) (by rw [HL.out]; omega) _ (by rw [rns_succ, HB.out]; simp)
          have v1 := HV.out _ hT2
          obtain ⟨fn, tmps, assign, body, hy, hR⟩ := HY.out pre ⟨(beg l k, k + 1), hrun⟩ wr.drew hJ2 (by have := rns_len l k; rw [← hpre, List.length_map] at this; omega)
          dsimp only at hy
          rw [runE_val (by omega) (by rw [HL.out]; omega)] at hy
          have HPR : Hid ((pre ++ [(⟨(beg l k, k + 1), hrun⟩ : { x // IsRun l x })]).map Subtype.val = rns l (k + 1)) := Lib.hid (by rw [rns_succ, HB.out, if_pos rfl, List.map_append, hpre]; rfl)
          have HT2 := Lib.hid hT2
          clear v0 ck hJ2 hT2 ck1
          generalize wr.drew = w1 at *
          generalize beg l k = b0 at *
          gi_wp2_with fail
          refine hR.mono ?_
          rintro e W3 (⟨rfl, hJ3, hk3⟩ | ⟨rfl, hJx3⟩)
          · have H3 := Lib.hid (And.intro hJ3 (HT2.out.trans hk3))
            clear hJ3 hk3 hR hy HT2
            gi_wp2_with fail
            go_roundw
            case rel => exact ⟨k + 1, by rw [beg_succ, HB.out]; simp, by go_num, by omega, Lib.hid ⟨⟨_, HPR.out, H3.out.1⟩, H3.out.2⟩⟩
            case measure => simp [intOf]; omega
          · gi_wp2_with fail
            refine bodyPost_ret (results_none rfl _ _ _) rfl ?_
            exact ⟨⟨_, rfl⟩, .inr ⟨_, ⟨k + 1, by omega, HPR.out⟩, hJx3⟩⟩
      · have hbr : brk l k = true := brk_last (by rw [HL.out]; omega)
        have HB := Lib.hid hbr
        clear hbr
        gi_wp2_with fail
        refine regionIn_held_drew (S := (fun Y => Y.cell? ⟨V, 0, none⟩ = some (.slice (some ad) len c))) (Wide.wide _ _) (by kernel_rfl) (by kernel_rfl) (v0) (fun hHeld => ?_)
        refine wpAnyH_take (i := 0) (v := .int .i64 k) rfl (by kernel_rfl) (by kernel_rfl) (by kernel_rfl) (fun _ _ _ h => h) (Or.inl ⟨by rfl, fun w hS => by first | (go_simp; done) | (go_simp; with_reducible rfl)⟩) hHeld ?_
        try simp only [Act.put, List.getElem_toArray, List.getElem_cons_zero, List.setIfInBounds_toArray, List.set_cons_zero, List.set_cons_succ]
        refine wpAnyH_take (i := 1) (v := .int .i64 ((k : Int) + 1)) rfl (by kernel_rfl) (by kernel_rfl) (by kernel_rfl) (fun _ _ _ h => h) (Or.inl ⟨by rfl, fun w hS => by first | (go_simp; exact hwr) | (go_simp; done) | (go_simp; with_reducible rfl) | (go_simp; omega)⟩) hHeld ?_
        try simp only [Act.put, List.getElem_toArray, List.getElem_cons_zero, List.getElem_cons_succ, List.setIfInBounds_toArray, List.set_cons_zero, List.set_cons_succ]
        refine wpAnyH_take (i := 2) (v := .slice (some ad) len c) rfl (by kernel_rfl) (by kernel_rfl) (by kernel_rfl) (fun _ _ _ h => h) (Or.inl ⟨by rfl, fun w hS => by (have c : _ = _ := hS; first | (go_simp; exact hwr) | (go_simp; done) | (go_simp; with_reducible rfl) | (go_simp; omega))⟩) hHeld ?_
        try simp only [Act.put, List.getElem_toArray, List.getElem_cons_zero, List.getElem_cons_succ, List.setIfInBounds_toArray, List.set_cons_zero, List.set_cons_succ]
        refine wpAnyH_take (i := 3) (v := .int .i64 len) rfl (by kernel_rfl) (by kernel_rfl) (by kernel_rfl) (fun _ _ _ h => h) (Or.inl ⟨by rfl, fun w hS => by first | (go_simp; done) | (go_simp; with_reducible rfl)⟩) hHeld ?_
        try simp only [Act.put, List.getElem_toArray, List.getElem_cons_zero, List.getElem_cons_succ, List.setIfInBounds_toArray, List.set_cons_zero, List.set_cons_succ]
        refine wpAnyH_take (i := 4) (v := .bool false) rfl (by kernel_rfl) (by kernel_rfl) (by kernel_rfl) (fun _ _ _ h => h) (Or.inl ⟨by rfl, fun w hS => by first | (go_simp; exact hwr) | (go_simp; done) | (go_simp; with_reducible rfl) | (go_simp; omega)⟩) hHeld ?_
        try simp only [Act.put, List.getElem_toArray, List.getElem_cons_zero, List.getElem_cons_succ, List.setIfInBounds_toArray, List.set_cons_zero, List.set_cons_succ]
        refine wpAnyH_take (i := 5) (v := .bool false) rfl (by kernel_rfl) (by kernel_rfl) (by kernel_rfl) (fun _ _ _ h => h) (Or.inl ⟨by rfl, fun w hS => by first | (go_simp; done) | (go_simp; with_reducible rfl)⟩) hHeld ?_
        try simp only [Act.put, List.getElem_toArray, List.getElem_cons_zero, List.getElem_cons_succ, List.setIfInBounds_toArray, List.set_cons_zero, List.set_cons_succ]
        refine wpAnyH_take (i := 6) (v := undef) rfl (by kernel_rfl) (by kernel_rfl) (by kernel_rfl) (fun _ _ _ h => h) (Or.inr ⟨by rfl, rfl⟩) hHeld ?_
        try simp only [Act.put, List.getElem_toArray, List.getElem_cons_zero, List.getElem_cons_succ, List.setIfInBounds_toArray, List.set_cons_zero, List.set_cons_succ]
        refine wpAnyH_take (i := 7) (v := undef) rfl (by kernel_rfl) (by kernel_rfl) (by kernel_rfl) (fun _ _ _ h => h) (Or.inr ⟨by rfl, rfl⟩) hHeld ?_
        try simp only [Act.put, List.getElem_toArray, List.getElem_cons_zero, List.getElem_cons_succ, List.setIfInBounds_toArray, List.set_cons_zero, List.set_cons_succ]
        refine wpAnyH_take (i := 8) (v := undef) rfl (by kernel_rfl) (by kernel_rfl) (by kernel_rfl) (fun _ _ _ h => h) (Or.inr ⟨by rfl, rfl⟩) hHeld ?_
        try simp only [Act.put, List.getElem_toArray, List.getElem_cons_zero, List.getElem_cons_succ, List.setIfInBounds_toArray, List.set_cons_zero, List.set_cons_succ]
        refine wpAnyH_take (i := 9) (v := undef) rfl (by kernel_rfl) (by kernel_rfl) (by kernel_rfl) (fun _ _ _ h => h) (Or.inr ⟨by rfl, rfl⟩) hHeld ?_
        try simp only [Act.put, List.getElem_toArray, List.getElem_cons_zero, List.getElem_cons_succ, List.setIfInBounds_toArray, List.set_cons_zero, List.set_cons_succ]
        refine wpAnyH_take (i := 10) (v := undef) rfl (by kernel_rfl) (by kernel_rfl) (by kernel_rfl) (fun _ _ _ h => h) (Or.inr ⟨by rfl, rfl⟩) hHeld ?_
        try simp only [Act.put, List.getElem_toArray, List.getElem_cons_zero, List.getElem_cons_succ, List.setIfInBounds_toArray, List.set_cons_zero, List.set_cons_succ]
        refine wpAnyH_take (i := 11) (v := undef) rfl (by kernel_rfl) (by kernel_rfl) (by kernel_rfl) (fun _ _ _ h => h) (Or.inr ⟨by rfl, rfl⟩) hHeld ?_
        try simp only [Act.put, List.getElem_toArray, List.getElem_cons_zero, List.getElem_cons_succ, List.setIfInBounds_toArray, List.set_cons_zero, List.set_cons_succ]
        refine wpAnyH_take (i := 12) (v := undef) rfl (by kernel_rfl) (by kernel_rfl) (by kernel_rfl) (fun _ _ _ h => h) (Or.inr ⟨by rfl, rfl⟩) hHeld ?_
        try simp only [Act.put, List.getElem_toArray, List.getElem_cons_zero, List.getElem_cons_succ, List.setIfInBounds_toArray, List.set_cons_zero, List.set_cons_succ]
        refine wpAnyH_take (i := 13) (v := undef) rfl (by kernel_rfl) (by kernel_rfl) (by kernel_rfl) (fun _ _ _ h => h) (Or.inr ⟨by rfl, rfl⟩) hHeld ?_
        try simp only [Act.put, List.getElem_toArray, List.getElem_cons_zero, List.getElem_cons_succ, List.setIfInBounds_toArray, List.set_cons_zero, List.set_cons_succ]
        refine wpAnyH_take (i := 14) (v := undef) rfl (by kernel_rfl) (by kernel_rfl) (by kernel_rfl) (fun _ _ _ h => h) (Or.inr ⟨by rfl, rfl⟩) hHeld ?_
        try simp only [Act.put, List.getElem_toArray, List.getElem_cons_zero, List.getElem_cons_succ, List.setIfInBounds_toArray, List.set_cons_zero, List.set_cons_succ]
        refine wpAnyH_take (i := 15) (v := undef) rfl (by kernel_rfl) (by kernel_rfl) (by kernel_rfl) (fun _ _ _ h => h) (Or.inr ⟨by rfl, rfl⟩) hHeld ?_
        try simp only [Act.put, List.getElem_toArray, List.getElem_cons_zero, List.getElem_cons_succ, List.setIfInBounds_toArray, List.set_cons_zero, List.set_cons_succ]
        refine wpAnyH_take (i := 16) (v := .bool false) rfl (by kernel_rfl) (by kernel_rfl) (by kernel_rfl) (fun _ _ _ h => h) (Or.inl ⟨by rfl, fun w hS => by first | (go_simp; exact hwr) | (go_simp; done) | (go_simp; with_reducible rfl) | (go_simp; omega)⟩) hHeld ?_
        try simp only [Act.put, List.getElem_toArray, List.getElem_cons_zero, List.getElem_cons_succ, List.setIfInBounds_toArray, List.set_cons_zero, List.set_cons_succ]
        refine wpAnyH_done (by kernel_rfl) (NormalAt.mk ?_) _
        have hT2 : Tk (vq D V) w wr.drew := HR.out.2.drew
        obtain ⟨pre, hpre, hJp⟩ := HR.out.1
        have hJ2 : J pre wr.drew := HJ.out _ _ _ none hJp ⟨rfl, rfl, rfl, Nat.le_refl _, fun _ _ _ => rfl⟩ (fun r e => by cases e)
        have hrun : IsRun l (beg l k, k + 1) := rns_is l (k + 1) (by rw [HL.out]; omega) _ (by rw [rns_succ, HB.out]; simp)
        have v1 := HV.out _ hT2
        obtain ⟨fn, tmps, assign, body, hy, hR⟩ := HY.out pre ⟨(beg l k, k + 1), hrun⟩ wr.drew hJ2 (by have := rns_len l k; rw [← hpre, List.length_map] at this; omega)
        dsimp only at hy
        rw [runE_val (by omega) (by rw [HL.out]; omega)] at hy
        have HPR : Hid ((pre ++ [(⟨(beg l k, k + 1), hrun⟩ : { x // IsRun l x })]).map Subtype.val = rns l (k + 1)) := Lib.hid (by rw [rns_succ, HB.out, if_pos rfl, List.map_append, hpre]; rfl)
        have HT2 := Lib.hid hT2
        clear v0 ck hJ2 hT2
        generalize wr.drew = w1 at *
        generalize beg l k = b0 at *
        gi_wp2_with fail
        refine hR.mono ?_
        rintro e W3 (⟨rfl, hJ3, hk3⟩ | ⟨rfl, hJx3⟩)
        · have H3 := Lib.hid (And.intro hJ3 (HT2.out.trans hk3))
          clear hJ3 hk3 hR hy HT2
          gi_wp2_with fail
          go_roundw
          case rel => exact ⟨k + 1, by rw [beg_succ, HB.out]; simp, by go_num, by omega, Lib.hid ⟨⟨_, HPR.out, H3.out.1⟩, H3.out.2⟩⟩
          case measure => simp [intOf]; omega
        · gi_wp2_with fail
          refine bodyPost_ret (results_none rfl _ _ _) rfl ?_
          exact ⟨⟨_, rfl⟩, .inr ⟨_, ⟨k + 1, by omega, HPR.out⟩, hJx3⟩⟩
    · gi_wp2_with fail
      go_end0
      have hke : k = len := by omega
      obtain ⟨pre, hpre, hJp⟩ := HR.out.1
      exact ⟨⟨_, rfl⟩, .inl ⟨pre, by rw [hpre, hke], hJp⟩⟩
end Ps
end Go.Proofs.Ytkpolakdamiiiaa
