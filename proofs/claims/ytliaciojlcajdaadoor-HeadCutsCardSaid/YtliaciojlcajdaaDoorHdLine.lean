/- head.same; the document's trim, plain, line. Conditions: as stated at each. -/
import Derived.Test.YtliaciojlcajdaaDoorHdSmall
namespace Go.Proofs.YtliaciojlcajdaaDoor
set_option maxRecDepth 100000
namespace Hd
open Go.RowKit Go Go.Proofs.YtliaciojlcajdaaDoor.Pa
theorem quiet_q {f : FuncId} {args : Array Value} {v : Value} (h : ∀ w, Calls Tryd.prog f args w fun e w' => e = .returned v ∧ w = w') (w : World) (n : Nat) :
    Calls Tryd.prog f args (w.drewN n) fun e w'' => e = .returned v ∧ ∃ m, w'' = w.drewN m := (h _).mono fun _ _ ⟨h1, h2⟩ => ⟨h1, n, h2.symm⟩
theorem drewH {w wr : World} (h : Hid (∃ n, wr = w.drewN n)) (m : Nat) : Hid (∃ n, wr.drewN m = w.drewN n) := by
  obtain ⟨n, rfl⟩ := h.out
  exact Lib.hid ⟨_, World.drewN_drewN _ _ _⟩
/-- alike but for the size of letters, in the first k bytes. -/
def sameK (a b : List UInt8) (k : Nat) : Bool := (a.take k).map lowB == (b.take k).map lowB
def sameS (a b : List UInt8) : Bool := a.map lowB == b.map lowB
theorem sameK_zero (a b : List UInt8) : sameK a b 0 = true := by simp [sameK]
theorem sameK_succ {a b : List UInt8} {k : Nat} (ha : k < a.length) (hb : k < b.length) : sameK a b (k + 1) = (sameK a b k && (lowB (a.getD k 0) == lowB (b.getD k 0))) := by
  unfold sameK
  rw [take_snoc_ a k ha, take_snoc_ b k hb, List.map_append, List.map_append, Bool.eq_iff_iff, Bool.and_eq_true, beq_iff_eq, beq_iff_eq, beq_iff_eq]
  constructor
  · intro h
    have := List.append_inj h (by simp; omega)
    exact ⟨this.1, by simpa using this.2⟩
  · rintro ⟨h1, h2⟩
    rw [h1]
    simp only [List.map_cons, List.map_nil]
    rw [h2]
theorem sameK_full {a b : List UInt8} {k : Nat} (ha : a.length ≤ k) (hb : b.length ≤ k) : sameK a b k = sameS a b := by
  unfold sameK sameS
  rw [List.take_of_length_le ha, List.take_of_length_le hb]
theorem sameS_len {a b : List UInt8} (h : a.length ≠ b.length) : sameS a b = false := by
  unfold sameS
  rw [beq_eq_false_iff_ne]
  intro e
  have := congrArg List.length e
  simp at this
  exact h this
theorem sameS_false {a b : List UInt8} {k : Nat} (ha : k < a.length) (hb : k < b.length) (h : (lowB (a.getD k 0) == lowB (b.getD k 0)) = false) : sameS a b = false := by
  unfold sameS
  rw [beq_eq_false_iff_ne]
  intro e
  have h1 := congrArg (·[k]?) e
  simp [ha, hb] at h1
  rw [beq_eq_false_iff_ne] at h
  apply h
  simp [List.getD, ha, hb, h1]
set_option maxHeartbeats 800000 in
theorem same_any (a b : List UInt8) (w : World) (ha : a.length ≤ 1000000) :
    Calls Tryd.prog 32 #[.string (str a), .string (str b)] w fun e w' => e = .returned (.bool (sameS a b)) ∧ ∃ n, w' = w.drewN n := by
  have hsa := str_size a
  have hsb := str_size b
  by_cases hl : a.length = b.length
  · have hata := str_at a
    have hatb := str_at b
    generalize str a = s at *
    generalize str b = t at *
    have HA := Lib.hid hata
    have HB := Lib.hid hatb
    have hst : s.size = t.size := by omega
    have HST := Lib.hid hst
    have hne : ((s.size : Int) != (t.size : Int)) = false := by rw [hst]; simp
    have HSA := Lib.hid hsa
    have HSB := Lib.hid hsb
    clear hata hatb hst hsa hsb hl
    have hs := HSA.out ▸ ha
    go_enter Tryd.func32, Tryd.ntmps32
    go_wp2_with fail
    go_loopw [5, 13] (fun _ i wr => ∃ k : Nat, k ≤ s.size ∧ i = .int .i64 k ∧ sameK a b k = true ∧ Hid (∃ n, wr = w.drewN n)) (fun _ i _ => s.size - (intOf i).toNat)
    case atStart => exact ⟨0, Nat.zero_le _, rfl, sameK_zero a b, Lib.hid ⟨0, rfl⟩⟩
    case round =>
      obtain ⟨k, hk, rfl, hsk, HW⟩ := hrel
      have HK := Lib.hid hsk
      clear hsk
      by_cases hlt : k < s.size
      · have hlt2 : k < t.size := by have := HST.out; omega
        have hca := HA.out k hlt
        have hcb := HB.out k hlt2
        have HLA : Hid (k < a.length) := Lib.hid (by have := HSA.out; omega)
        have HLB : Hid (k < b.length) := Lib.hid (by have := HSB.out; omega)
        have HS := Lib.hid (sameK_succ HLA.out HLB.out)
        have HF := Lib.hid (fun h => sameS_false HLA.out HLB.out h)
        rw [← hca, ← hcb] at HS HF
        clear hca hcb
        have HQ := Lib.hid (fun c w n => quiet_q (small_any c) w n)
        have hx : ((((lowB s[k]).toNat : Int)) != ((lowB t[k]).toNat : Int)) = !(lowB s[k] == lowB t[k]) := by
          rw [Bool.eq_iff_iff, bne_iff_ne, Bool.not_eq_true', beq_eq_false_iff_ne, Ne, Ne, ← UInt8.toNat_inj]
          omega
        cases he : (lowB s[k] == lowB t[k]) with
        | true =>
          rw [he] at hx HS
          have hx2 : ((((lowB s[k]).toNat : Int)) != ((lowB t[k]).toNat : Int)) = false := hx
          have HS2 := Lib.hid (HS.out.trans (by rw [HK.out, Bool.and_self]))
          clear he hx HS HF
          go_wp2_with fail
          go_quiet ((go_at_call 44; exact HQ.out _ _ _))
          go_wp2_with fail
          go_roundw
          case rel => exact ⟨k + 1, by omega, by go_num, HS2.out, drewH HW _⟩
          case measure => simp [intOf]; omega
        | false =>
          rw [he] at hx
          have hx2 : ((((lowB s[k]).toNat : Int)) != ((lowB t[k]).toNat : Int)) = true := hx
          have HF2 := Lib.hid (HF.out he)
          clear he hx HS HF
          go_wp2_with fail
          go_quiet ((go_at_call 44; exact HQ.out _ _ _))
          go_wp2_with fail
          go_ret
          exact ⟨ret_bool HF2.out.symm, (drewH HW _).out⟩
      · have HT : Hid (true = sameS a b) := Lib.hid (by have h1 := HK.out; rw [sameK_full (by have := HSA.out; omega) (by have := HSB.out; have := HST.out; omega)] at h1; exact h1.symm)
        go_wp2_with fail
        go_ret
        exact ⟨ret_bool HT.out, HW.out⟩
  · have HR := Lib.hid (sameS_len hl)
    have hne : (((str a).size : Int) != ((str b).size : Int)) = true := by rw [hsa, hsb, bne_iff_ne]; omega
    generalize sameS a b = r at *
    generalize str a = s at *
    generalize str b = t at *
    clear hl hsa hsb
    go_enter Tryd.func32, Tryd.ntmps32
    go_wp2_with fail
    go_ret
    exact ⟨ret_bool HR.out.symm, 0, rfl⟩
theorem drop_nil {p : UInt8 → Bool} : ∀ {l : List UInt8}, l.dropWhile p = [] ↔ ∀ x ∈ l, p x = true
  | [] => by simp
  | y :: l => by
    rw [List.dropWhile_cons]
    cases hp : p y with
    | true => simp [hp, drop_nil (p := p) (l := l)]
    | false => simp [hp]
def rdrop (p : UInt8 → Bool) (l : List UInt8) : List UInt8 := (l.reverse.dropWhile p).reverse
theorem rdrop_snoc (p : UInt8 → Bool) (l : List UInt8) (x : UInt8) : rdrop p (l ++ [x]) = if p x then rdrop p l else l ++ [x] := by
  unfold rdrop
  rw [List.reverse_append, List.reverse_singleton, List.singleton_append, List.dropWhile_cons]
  split <;> simp
theorem rdrop_cons (p : UInt8 → Bool) (x : UInt8) (hx : p x = false) (t d : List UInt8) : rdrop p (t ++ x :: d) = t ++ rdrop p (x :: d) := by
  unfold rdrop
  rw [List.reverse_append, List.dropWhile_append, if_neg, List.reverse_append, List.reverse_reverse]
  intro h
  rw [List.isEmpty_iff, drop_nil] at h
  have := h x (by simp)
  rw [hx] at this
  cases this
theorem mem_take {p : UInt8 → Bool} {y : UInt8} : ∀ {l : List UInt8}, y ∈ l.takeWhile p → p y = true
  | [], h => by simp at h
  | x :: l, h => by
    rw [List.takeWhile_cons] at h
    cases hx : p x with
    | true =>
      rw [hx] at h
      rcases List.mem_cons.1 h with rfl | h
      · exact hx
      · exact mem_take h
    | false =>
      rw [hx] at h
      cases h
theorem drop_comm (p : UInt8 → Bool) (l : List UInt8) : rdrop p (l.dropWhile p) = (rdrop p l).dropWhile p := by
  cases hd : l.dropWhile p with
  | nil =>
    have h : ∀ x ∈ l, p x = true := drop_nil.1 hd
    have : rdrop p l = [] := by
      unfold rdrop
      rw [drop_nil.2 (fun x hx => h x (by simpa using hx))]
      rfl
    rw [this]
    rfl
  | cons x d =>
    have hx : p x = false := by
      have := List.head?_dropWhile_not p l
      rw [hd] at this
      simpa using this
    obtain ⟨t, ht⟩ := List.dropWhile_suffix (p := p) (l := l)
    rw [hd] at ht
    have htp : ∀ y ∈ t, p y = true := by
      have e : t = l.takeWhile p := by
        have := List.takeWhile_append_dropWhile (p := p) (l := l)
        rw [hd, ← ht] at this
        rw [← ht]
        exact (List.append_cancel_right this).symm
      intro y hy
      rw [e] at hy
      exact mem_take hy
    rw [← ht, rdrop_cons p x hx]
    have e2 : rdrop p (x :: d) = x :: rdrop p d ∨ rdrop p (x :: d) = [x] := by
      unfold rdrop
      rw [List.reverse_cons, List.dropWhile_append]
      split
      · right
        rw [List.dropWhile_cons, hx]
        rfl
      · left
        simp
    rw [List.dropWhile_append, drop_nil.2 htp]
    simp only [List.isEmpty_nil, if_true]
    rcases e2 with e2 | e2 <;> rw [e2, List.dropWhile_cons, hx] <;> rfl
theorem contains_blank : (fun c => ([32, 9] : List UInt8).contains c) = blankB := by
  funext c
  unfold blankB
  rw [Bool.eq_iff_iff]
  simp
theorem trimB_eq (l : List UInt8) : trimB l = rdrop blankB (l.dropWhile blankB) := by
  rw [drop_comm]
  unfold trimB Go.Lib.trimS Go.Lib.trimLeftS Go.Lib.trimRightS rdrop
  rw [contains_blank]
def szS : Value → Nat
  | .string s => s.size
  | _ => 0
theorem drop_blank {c : UInt8} {m : List UInt8} (h : blankB c = true) : (c :: m).dropWhile blankB = m.dropWhile blankB := by rw [List.dropWhile_cons, h]; rfl
theorem drop_other {c : UInt8} {m : List UInt8} (h : blankB c = false) : (c :: m).dropWhile blankB = c :: m := by rw [List.dropWhile_cons, h]; rfl
theorem rdrop_other {c : UInt8} {m : List UInt8} (h : blankB c = false) : rdrop blankB (m ++ [c]) = m ++ [c] := by rw [rdrop_snoc, h]; rfl
theorem rdrop_blank {c : UInt8} {m : List UInt8} (h : blankB c = true) : rdrop blankB (m ++ [c]) = rdrop blankB m := by rw [rdrop_snoc, h]; rfl
set_option maxHeartbeats 1600000 in
theorem rtrim_any (l : List UInt8) (w : World) (hl : l.length ≤ 1000000) :
    Calls Tryd.prog 28 #[.string (str l)] w fun e w' => e = .returned (.string (str (trimB l))) ∧ w = w' := by
  rw [trimB_eq]
  have HB := Lib.hid (fun c w => rblank_any c w)
  go_enter Tryd.func28, Tryd.ntmps28
  go_wp2_with fail
  go_loop [0] (fun x => ∃ m : List UInt8, m.length ≤ 1000000 ∧ x = .string (str m) ∧ Hid (m.dropWhile blankB = l.dropWhile blankB)) (fun x => szS x)
  case atStart => exact ⟨l, hl, rfl, Lib.hid rfl⟩
  case round =>
    obtain ⟨m, hm, rfl, HM⟩ := hrel
    have hcs : (∃ c t, m = c :: t ∧ blankB c = true) ∨ (m = [] ∨ ∃ c t, m = c :: t ∧ blankB c = false) := by
      cases m with
      | nil => exact .inr (.inl rfl)
      | cons c t =>
        cases hc : blankB c with
        | true => exact .inl ⟨c, t, rfl, hc⟩
        | false => exact .inr (.inr ⟨c, t, rfl, hc⟩)
    rcases hcs with ⟨c, t, rfl, hc⟩ | hx
    · have he := emp_f (l := c :: t) (by simp)
      have hs0 : 0 < (str (c :: t)).size := by rw [str_size]; simp
      have hc0 := str_at (c :: t) 0 hs0
      rw [show (c :: t).getD 0 0 = c from rfl] at hc0
      have HB2 := HB.out c
      rw [hc] at HB2
      have HB3 := Lib.hid HB2
      have hsz := str_size (c :: t)
      have hex : (str (c :: t)).extract 1 (c :: t).length = str t := by rw [str_extract]; simp
      have HT : Hid (t.dropWhile blankB = l.dropWhile blankB) := Lib.hid (by rw [← HM.out, drop_blank hc])
      have HL : Hid (t.length ≤ 1000000 ∧ szS (.string (str t)) < szS (.string (str (c :: t)))) := Lib.hid ⟨by simp at hm; omega, by simp [szS, str_size]⟩
      rw [← hsz] at hex hm
      clear hc HB2 hsz
      generalize str (c :: t) = s at *
      go_wp2_with (first
        | (refine (HB3.out _).mono ?_; rintro e w' ⟨rfl, rfl⟩)
        | fail)
      go_round
      case rel => exact ⟨t, HL.out.1, rfl, HT⟩
      case measure => exact HL.out.2
    · have HMx : Hid (m = l.dropWhile blankB) := Lib.hid (by
        rw [← HM.out]
        rcases hx with rfl | ⟨c, t, rfl, hc⟩
        · rfl
        · exact (drop_other hc).symm)
      rcases hx with rfl | ⟨c, t, rfl, hc⟩
      focus
        have he := emp_t
        have HCT : Hid (([] : List UInt8) = l.dropWhile blankB) := HMx
        have HMM : Hid (([] : List UInt8).length ≤ 1000000) := Lib.hid hm
        clear HM hm HMx
        generalize hst : str [] = s at *
        have HST := Lib.hid hst
        clear hst
        go_wp2_with fail
        clear he
      rotate_left
      focus
        have he := emp_f (l := c :: t) (by simp)
        have hs0 : 0 < (str (c :: t)).size := by rw [str_size]; simp
        have hc0 := str_at (c :: t) 0 hs0
        rw [show (c :: t).getD 0 0 = c from rfl] at hc0
        have HB2 := HB.out c
        rw [hc] at HB2
        have HB3 := Lib.hid HB2
        have HS : Hid (Value.string (str (c :: t)) = .string (str (l.dropWhile blankB)) ∧ (c :: t).length ≤ 1000000) := Lib.hid ⟨by rw [HMx.out], hm⟩
        have HCT : Hid (c :: t = l.dropWhile blankB) := HMx
        have HMM : Hid ((c :: t).length ≤ 1000000) := Lib.hid hm
        clear hc HB2 HM hm HMx
        generalize hst : str (c :: t) = s at *
        have HST := Lib.hid hst
        clear hst
        go_wp2_with (first
          | (refine (HB3.out _).mono ?_; rintro e w' ⟨rfl, rfl⟩)
          | fail)
        clear hc0 he hs0 HB3
      all_goals
        go_loop [0] (fun x => ∃ q : List UInt8, q.length ≤ 1000000 ∧ x = .string (str q) ∧ Hid (rdrop blankB q = rdrop blankB (l.dropWhile blankB))) (fun x => szS x)
        case atStart => exact ⟨_, HMM.out, by rw [HST.out], Lib.hid (by rw [HCT.out])⟩
        case round =>
          obtain ⟨q, hq, rfl, HQ⟩ := hrel
          have hcs : q = [] ∨ ∃ r x, q = r ++ [x] := by
            rcases List.eq_nil_or_concat q with h | ⟨r, x, h⟩
            · exact .inl h
            · exact .inr ⟨r, x, by simpa using h⟩
          rcases hcs with rfl | ⟨r, x, rfl⟩
          · have he := emp_t
            have HR : Hid (rdrop blankB (l.dropWhile blankB) = []) := Lib.hid (by rw [← HQ.out]; rfl)
            go_wp2_with fail
            go_ret
            exact ⟨ret_str (by rw [HR.out]), rfl⟩
          · have he := emp_f (l := r ++ [x]) (by simp)
            have hsz := str_size (r ++ [x])
            rw [show (r ++ [x]).length = r.length + 1 by simp] at hsz hq
            have hlt : r.length < (str (r ++ [x])).size := by omega
            have hc0 := str_at (r ++ [x]) r.length hlt
            rw [show (r ++ [x]).getD r.length 0 = x by simp [List.getD]] at hc0
            have HB2 := HB.out x
            have hex : (str (r ++ [x])).extract 0 r.length = str r := by rw [str_extract]; simp
            cases hx : blankB x with
            | true =>
              rw [hx] at HB2
              have HB4 := Lib.hid HB2
              have HQ2 : Hid (rdrop blankB r = rdrop blankB (l.dropWhile blankB)) := Lib.hid (by rw [← HQ.out, rdrop_blank hx])
              have HM2 : Hid (szS (.string (str r)) < szS (.string (str (r ++ [x]))) ∧ r.length ≤ 1000000) := Lib.hid ⟨by simp [szS, str_size], by omega⟩
              clear hx HB2 HQ
              generalize str (r ++ [x]) = s2 at *
              generalize hn : r.length = n at *
              have HN := Lib.hid hn
              clear hn
              go_wp2_with (first
                | (refine (HB4.out _).mono ?_; rintro e w' ⟨rfl, rfl⟩)
                | fail)
              go_round
              case rel => exact ⟨r, by rw [HN.out]; exact HM2.out.2, rfl, HQ2⟩
              case measure => exact HM2.out.1
            | false =>
              rw [hx] at HB2
              have HB4 := Lib.hid HB2
              have HR : Hid (str (r ++ [x]) = str (rdrop blankB (l.dropWhile blankB))) := Lib.hid (by rw [← HQ.out, rdrop_other hx])
              clear hx HB2 HQ
              generalize str (r ++ [x]) = s2 at *
              generalize hn : r.length = n at *
              have HN := Lib.hid hn
              clear hn
              go_wp2_with (first
                | (refine (HB4.out _).mono ?_; rintro e w' ⟨rfl, rfl⟩)
                | fail)
              go_ret
              exact ⟨ret_str HR.out, rfl⟩
end Hd
end Go.Proofs.YtliaciojlcajdaaDoor
