/- Contract of the document's All. Conditions: as stated. -/
import Derived.Test.YtljefpagoggkdaaRowsOwn
namespace Go.Proofs.Ytljefpagoggkdaa
open Go.RowKit Go
def sliceLen : Value → Nat
  | .slice _ n _ => n
  | _ => 0
/-- all that is found, and how much it takes. -/
def Alls (W : World) (l : List UInt8) (e : Ending) (w' : World) : Prop :=
  ∃ v, e = .returned (.tuple #[v, .int .i64 (took (recs l) : Nat)]) ∧ OwnR w' W.heap.size v (recs l) ∧ Below W.heap.size W w'
def RestIs (W : World) (B : Nat) (x : Value) (m : List UInt8) : Prop := ∃ A c, x = .slice A m.length c ∧ Bts W B A m ∧ m.length ≤ c ∧ c ≤ maxLen
theorem recs_len (l : List UInt8) : (recs l).length ≤ l.length := by
  have h : ∀ ll : List (List UInt8), ll.length ≤ took ll := by
    intro ll
    induction ll with
    | nil => simp
    | cons r ll ih => rw [took_cons, List.length_cons]; omega
  exact Nat.le_trans (h _) (took_le l)
theorem cut_took {m : List UInt8} {n : Nat} (h : cutN m = some n) : ((m.drop 8).take n).length = n ∧ (m.drop (8 + n)).length + (8 + n) = m.length := by
  have := (cutN_yes h).2.1
  constructor
  · simp; omega
  · simp; omega
set_option maxHeartbeats 1600000 in
theorem rall_any (A : Option Addr) (c : Nat) (l : List UInt8) (W : World) (hbt : Bts W W.heap.size A l) (hl : l.length ≤ c) (hc : c ≤ maxLen) (hm : l.length ≤ 100000000) :
    Calls Try.prog 19 #[.slice A l.length c] W fun e w' => Alls W l e w' := by
  go_enter Try.func19, Try.ntmps19
  go_wp2_with fail
  go_loopw [4, 5] (fun out x w1 => ∃ done m, RestIs w1 W.heap.size x m ∧ OwnR w1 W.heap.size out done ∧ done ++ recs m = recs l ∧ took done + m.length = l.length ∧ Below W.heap.size W w1) (fun _ x _ => sliceLen x)
  case atStart => exact ⟨[], l, ⟨A, c, rfl, hbt, hl, hc⟩, OwnR.nil _ _, rfl, by simp [took], Below.refl _ _⟩
  case round =>
    obtain ⟨done, m, ⟨A1, c1, rfl, hb1, hl1, hc1⟩, ho, hd, ht, hb⟩ := hrel
    rename World => w1
    have HO := Lib.hid ho
    have HB := Lib.hid hb
    have HD := Lib.hid hd
    have HT := Lib.hid ht
    have hmm : m.length ≤ l.length := by omega
    clear ho hb hd ht
    cases hn : cutN m with
    | none =>
      have HN := Lib.hid hn
      clear hn
      go_wp2_with fail
      refine (rnext_none _ _ _ _ _ hb1 hl1 (by omega) HN.out).mono ?_
      rintro e w2 ⟨rfl, k0, rfl⟩
      have HB2 := Lib.hid (HB.out.trans (drewN_below w1 _ k0))
      have HO2 := Lib.hid (HO.out.kept (drewN_below w1 _ k0) (Nat.le_refl _))
      generalize w1.drewN k0 = w2 at *
      go_wp2_with fail
      have e0 : done = recs l := by
        have := HD.out
        rw [recs_none HN.out, List.append_nil] at this
        exact this
      have hv : ((l.length : Int) - (m.length : Int)) = ((took (recs l) : Nat) : Int) := by
        have := HT.out
        rw [← e0]
        omega
      subst e0
      refine bodyPost_ret (by simp [results, Try.results19, go_sem]; rfl) rfl ⟨_, by rw [hv], HO2.out, HB2.out⟩
    | some n =>
      have HN := Lib.hid hn
      clear hn
      go_wp2_with fail
      refine (rnext_some _ _ _ _ _ n hb1 HB.out.size hl1 hc1 (by omega) HN.out).mono ?_
      rintro e w2 ⟨v2, A2, c2, rfl, ho2, hb2, hl2, hc2, hbl2⟩
      obtain ⟨A3, c3, rfl, _⟩ := own_slice ho2
      have HB2 := Lib.hid (HB.out.trans (hbl2.mono HB.out.size))
      have HO2 := HO.out.kept hbl2 (Nat.le_refl _)
      have hu := own_more ho2 HB.out.size
      have ha := (Below.refl w2.heap.size w2).alloc (Nat.le_refl _) (.cells #[.slice A3 ((m.drop 8).take n).length c3] 22)
      have HB3 := Lib.hid (HB2.out.trans (ha.mono HB2.out.size))
      have HO3 := HO2.kept ha (Nat.le_refl _)
      have hu3 := own_kept hu ha (Nat.le_refl _)
      have HA := Lib.hid (ha.mono HB2.out.size)
      clear hbl2 HO2 hu ho2 ha
      obtain ⟨ht1, ht2⟩ := cut_took HN.out
      have hlen : done.length ≤ l.length := by
        have h1 := congrArg List.length HD.out
        have h2 := recs_len l
        rw [List.length_append] at h1
        omega
      have HS := Lib.hid (recs_some HN.out)
      have HR : Hid (RestIs w2 W.heap.size (.slice A2 (m.drop (8 + n)).length c2) (m.drop (8 + n))) := by
        have h : RestIs w2 W.heap.size (.slice A2 (m.drop (8 + n)).length c2) (m.drop (8 + n)) := ⟨A2, c2, rfl, hb2, hl2, hc2⟩
        exact Lib.hid h
      have HT1 := Lib.hid ht1
      generalize (m.drop 8).take n = r1 at *
      generalize m.drop (8 + n) = r2 at *
      clear hb2 hl2 hc2 ht1
      go_wp2_with (at_builtin; refine app22 (.tmp 24) (.tmp 26) rfl rfl W.heap.size _ done rfl HO3 w2.heap.size 1 _ r1 rfl ((cell_of_row _ w2.heap.size 0 #[.slice A3 r1.length c3] 22 (0, 0) (heap_alloc_new w2 _)).trans rfl) hu3 (by omega) HB3.out.size ?_; intro v4 w4 ho4 hb4)
      have HB4 := Lib.hid (HB3.out.trans hb4)
      have HA4 := Lib.hid (HA.out.trans hb4)
      have HO4 := Lib.hid ho4
      clear ho4
      go_wp2_with fail
      go_roundw
      case rel =>
        obtain ⟨A9, c9, e9, h91, h92⟩ := HR.out
        refine ⟨done ++ [r1], r2, ⟨A9, c9, e9, ?_, h92⟩, HO4.out, ?_, ?_, HB4.out⟩
        · exact h91.below HA4.out
        · rw [List.append_assoc, ← HD.out, HS.out]; rfl
        · rw [took_append, took_cons, took_nil, HT1.out]; have := HT.out; omega
      case measure => simp [sliceLen]; omega
end Go.Proofs.Ytljefpagoggkdaa
