/- Contract of the document's Next. Conditions: as stated. -/
import Derived.Test.YtljefpagoggkdaaAwake
import Derived.Deep.RegionLaw
import Derived.IntWalk
namespace Go.Proofs.Ytljefpagoggkdaa
open Go.RowKit Go
theorem rcrc_q (A : Option Addr) (B c n : Nat) (l : List UInt8) (w : World) (k : Nat) (h : Bts w B A l) (hn : l.length = n) (hl : n ≤ 1000000000) :
    Calls Try.prog 13 #[.slice A n c] (w.drewN k) fun e w' => e = .returned (.int .u32 (crc l : Nat)) ∧ ∃ m, w' = w.drewN m := by
  subst hn
  exact (rcrc_any A B c l _ (h.below (drewN_below w B k)) hl).mono fun _ _ ⟨he, hw⟩ => ⟨he, k, hw.symm⟩
theorem number_q (A : Option Addr) (B c n : Nat) (l : List UInt8) (w : World) (k : Nat) (h : Bts w B A l) (hn : l.length = n) (hl : n ≤ 1000000000) (h4 : 4 ≤ n) :
    Calls Try.prog 26 #[.slice A n c] (w.drewN k) fun e w' => e = .returned (.int .u32 (num4 l : Nat)) ∧ ∃ m, w' = w.drewN m := by
  subst hn
  exact Calls.quiet_of (number_any A B c l _ (h.below (drewN_below w B k)) hl h4)
/-- append of bytes as one step of a region that draws. -/
theorem step5 {ops : Array Oper} {o : Oper} {a : Act} {w : World} {K : Act → World → Prop} {Q : Exit → Act → World → Prop} {E : Prop} (s x : Operand)
    (ho : o.op = .call { callee := .builtin .append, args := #[s, x], argTypes := #[22, 22] }) (hgd : o.guard = none)
    (N : Nat) (v : Value) (l m : List UInt8) (n : Nat) (hs : a.eval s = v) (hown : Own5 w N v l)
    (B : Nat) (A : Option Addr) (c : Nat) (hx : a.eval x = .slice A n c) (hl : m.length = n) (hr : Bts w B A m) (h63 : l.length + n ≤ 1000000000) (hN : N ≤ w.heap.size)
    (h : ∀ v' w', Own5 w' N v' (l ++ m) → w.grownBy w' v.ownBlock → K (a.put o.dst v') w') : if Region.wanted o (yielded ops a.tmps) = true then Oper.wp Try.prog o a w K Q else E := by
  have hw : Region.wanted o (yielded ops a.tmps) = true := by simp [Region.wanted, hgd]
  rw [if_pos hw]
  obtain ⟨i, hi, hz, h0, h1⟩ := info_parts info5
  subst hl
  refine wp_app s x ho Try.underlying22 hi hz h0 h1 rfl hs hown hx hr (bv_length m) (bv_one m) h63 (by decide) hN fun v' w' h2 h3 => h _ _ ?_ h3
  unfold Own5
  rw [List.length_append, bv_append]
  exact h2
def RNone (W : World) (A : Option Addr) (c : Nat) (l : List UInt8) (e : Ending) (w' : World) : Prop :=
  e = .returned (.tuple #[.slice none 0 0, .slice A l.length c, .bool false]) ∧ ∃ m, w' = W.drewN m
def RSome (W : World) (B : Nat) (l : List UInt8) (n : Nat) (e : Ending) (w' : World) : Prop :=
  ∃ v A2 c2, e = .returned (.tuple #[v, .slice A2 (l.drop (8 + n)).length c2, .bool true]) ∧ Own5 w' W.heap.size v ((l.drop 8).take n) ∧ Bts w' B A2 (l.drop (8 + n)) ∧ (l.drop (8 + n)).length ≤ c2 ∧ c2 ≤ maxLen ∧ Below W.heap.size W w'
theorem cutN_ne {l : List UInt8} (h : cutN l = none) (h8 : ¬ l.length < 8) (hbig : ¬ 1000000 < num4 l) (hlong : ¬ l.length - 8 < num4 l) : crc ((l.drop 8).take (num4 l)) ≠ num4 (l.drop 4) := fun e => by
  unfold cutN at h
  rw [if_neg h8, if_neg hbig, if_neg hlong, if_pos e] at h
  cases h
set_option maxHeartbeats 1600000 in
theorem rnext_ne (A : Option Addr) (B c : Nat) (l : List UInt8) (w : World) (hbt : Bts w B A l) (hl : l.length ≤ c) (hm : l.length ≤ 1000000000) (h8 : 8 ≤ l.length) (h2 : 8 + num4 l ≤ l.length) (h3 : num4 l ≤ 1000000) (h4 : crc ((l.drop 8).take (num4 l)) ≠ num4 (l.drop 4)) (c8 : ¬ c = 8) :
    Calls Try.prog 17 #[.slice A l.length c] w fun e w' => RNone w A c l e w' := by
  obtain ⟨ad, rfl, _, _⟩ := hbt.at_ (show 0 < l.length by omega)
  have hnum := number_any _ _ c _ _ hbt (by omega) (by omega)
  have hw := num4_lt l
  have hL : ((l.drop 8).take (num4 l)).length = num4 l := by simp; omega
  have hL4 : (l.drop 4).length = l.length - 4 := by simp
  have hR4 := hbt.drop_eq 4
  have HR : Bts w B (some (ad.add 8)) ((l.drop 8).take (num4 l)) := (hbt.drop_eq 8).take _
  have hWord := fun k0 k => number_q (some (ad.add 4)) B (c - 4) (l.length - 4) (l.drop 4) (w.drewN k0) k (hR4.below (drewN_below _ _ _)) hL4 (by omega) (by omega)
  have hCrc := fun k0 k => rcrc_q (some (ad.add 8)) B (c - 8) (num4 l) _ (w.drewN k0) k (HR.below (drewN_below _ _ _)) hL (by omega)
  have hx : (((crc ((l.drop 8).take (num4 l)) : Nat) : Int) != ((num4 (l.drop 4) : Nat) : Int)) = true := by
    simp only [bne_iff_ne, ne_eq]
    omega
  clear h4 hL hL4 hR4 HR
  have n1 : decide (1000000 < (num4 l : Int)) = false := by simp; omega
  have n2 : decide ((l.length : Int) - 8 < (num4 l : Int)) = false := by simp; omega
  have b1 : 4 ≤ l.length := by omega
  have b3 : (num4 l : Int) ≤ 1000000 := by omega
  go_enter Try.func17, Try.ntmps17
  go_wp2_with fail
  refine hnum.mono ?_
  rintro e w' ⟨rfl, k0, rfl⟩
  replace hWord := hWord k0
  replace hCrc := hCrc k0
  generalize hg : w.drewN k0 = w1 at *
  have HG := Lib.hid hg
  clear hg
  go_wp2_with fail
  go_quiet (first | (go_at_call 13; exact hCrc _) | (go_at_call 26; exact hWord _))
  go_wp2_with fail
  refine bodyPost_ret (v := .tuple #[.slice none 0 0, .slice (some ad) l.length c, .bool false]) (by simp [results, Try.results17, go_sem]) rfl ⟨rfl, k0 + nq, by rw [← HG.out, World.drewN_drewN]⟩
set_option maxHeartbeats 1600000 in
theorem rnext_ne8 (A : Option Addr) (B : Nat) (l : List UInt8) (w : World) (hbt : Bts w B A l) (hl : l.length ≤ 8) (h8 : 8 ≤ l.length) (h1 : num4 l = 0) (h4 : crc [] ≠ num4 (l.drop 4)) :
    Calls Try.prog 17 #[.slice A l.length 8] w fun e w' => RNone w A 8 l e w' := by
  obtain ⟨ad, rfl, _, _⟩ := hbt.at_ (show 0 < l.length by omega)
  have hnum : Calls Try.prog 26 #[.slice (some ad) l.length 8] w fun e w' => e = .returned (.int .u32 0) ∧ ∃ n, w' = w.drewN n := by
    have := number_any _ _ 8 _ _ hbt (by omega) (by omega)
    rw [h1] at this
    exact this
  have hL4 : (l.drop 4).length = l.length - 4 := by simp
  have hR4 := hbt.drop_eq 4
  have hWord := fun k0 k => number_q (some (ad.add 4)) B 4 (l.length - 4) (l.drop 4) (w.drewN k0) k (hR4.below (drewN_below _ _ _)) hL4 (by omega) (by omega)
  have hCrc := fun k0 k => rcrc_q (some ad) B 0 0 [] (w.drewN k0) k Cs.nil rfl (by omega)
  have hx : (((crc [] : Nat) : Int) != ((num4 (l.drop 4) : Nat) : Int)) = true := by
    simp only [bne_iff_ne, ne_eq]
    omega
  generalize num4 (l.drop 4) = z2 at *
  generalize crc [] = z1 at *
  clear h4 hL4 hR4 h1
  have n2 : decide ((l.length : Int) - 8 < 0) = false := by simp; omega
  have b1 : 4 ≤ l.length := by omega
  go_enter Try.func17, Try.ntmps17
  go_wp2_with fail
  refine hnum.mono ?_
  rintro e w' ⟨rfl, k0, rfl⟩
  replace hWord := hWord k0
  replace hCrc := hCrc k0
  generalize hg : w.drewN k0 = w1 at *
  have HG := Lib.hid hg
  clear hg
  go_wp2_with fail
  go_quiet (first | (go_at_call 13; exact hCrc _) | (go_at_call 26; exact hWord _))
  go_wp2_with fail
  refine bodyPost_ret (v := .tuple #[.slice none 0 0, .slice (some ad) l.length 8, .bool false]) (by simp [results, Try.results17, go_sem]) rfl ⟨rfl, k0 + nq, by rw [← HG.out, World.drewN_drewN]⟩
set_option maxHeartbeats 1600000 in
theorem rnext_none (A : Option Addr) (B c : Nat) (l : List UInt8) (w : World) (hbt : Bts w B A l) (hl : l.length ≤ c) (hm : l.length ≤ 1000000000) (hn : cutN l = none) :
    Calls Try.prog 17 #[.slice A l.length c] w fun e w' => RNone w A c l e w' := by
  have HN := Lib.hid hn
  clear hn
  by_cases h8 : l.length < 8
  · clear HN
    go_enter Try.func17, Try.ntmps17
    go_wp2_with fail
    refine bodyPost_ret (v := .tuple #[.slice none 0 0, .slice A l.length c, .bool false]) (by simp [results, Try.results17, go_sem]) rfl ⟨rfl, 0, rfl⟩
  · have hw := num4_lt l
    have hnum := number_any _ _ c _ _ hbt (by omega) (by omega)
    by_cases hbig : 1000000 < num4 l
    · have hbig2 : decide (1000000 < (num4 l : Int)) = true := by simp; omega
      go_enter Try.func17, Try.ntmps17
      go_wp2_with fail
      refine hnum.mono ?_
      rintro e w' ⟨rfl, k0, rfl⟩
      go_wp2_with fail
      go_quiet (fail)
      go_wp2_with fail
      refine bodyPost_ret (v := .tuple #[.slice none 0 0, .slice A l.length c, .bool false]) (by simp [results, Try.results17, go_sem]) rfl ⟨rfl, _, World.drewN_drewN _ _ _⟩
    · have hbig' : decide (1000000 < (num4 l : Int)) = false := by simp; omega
      by_cases hlong : l.length - 8 < num4 l
      · have hlong' : decide ((l.length : Int) - 8 < (num4 l : Int)) = true := by simp; omega
        go_enter Try.func17, Try.ntmps17
        go_wp2_with fail
        refine hnum.mono ?_
        rintro e w' ⟨rfl, k0, rfl⟩
        go_wp2_with fail
        go_quiet (fail)
        go_wp2_with fail
        refine bodyPost_ret (v := .tuple #[.slice none 0 0, .slice A l.length c, .bool false]) (by simp [results, Try.results17, go_sem]) rfl ⟨rfl, _, World.drewN_drewN _ _ _⟩
      · have hlong' : decide ((l.length : Int) - 8 < (num4 l : Int)) = false := by simp; omega
        have hne := cutN_ne HN.out h8 hbig hlong
        by_cases c8 : c = 8
        · subst c8
          have hz : num4 l = 0 := by omega
          rw [hz, List.take_zero] at hne
          exact rnext_ne8 A B l w hbt hl (by omega) hz hne
        · exact rnext_ne A B c l w hbt hl hm (by omega) (by omega) (by omega) hne c8
end Go.Proofs.Ytljefpagoggkdaa
