/- The document's Words. Conditions: as stated at each. -/
import Derived.Test.YtbhkppleomnjjaaTkTerm
import Derived.Laws.Runes
namespace Go.Proofs.Ytbhkppleomnjjaa
set_option maxRecDepth 100000
namespace Tk
open Go.RowKit Go.Shelf Go Go.Proofs.Ytbhkppleomnjjaa.Pa
theorem enc_byte (c : UInt8) (h : c.toNat < 128) : Utf8.encode (c.toNat : Int) = str [c] := by
  have hv : Utf8.valid (c.toNat : Int) = true := by
    unfold Utf8.valid; simp; omega
  unfold Utf8.encode
  rw [if_pos hv]
  have h2 : ((c.toNat : Int)).toNat < 128 := by simpa using h
  simp only [h2, if_true]
  apply ByteArray.ext
  simp [str]
theorem let_128 {c : UInt8} (h : letB c = true) : c.toNat < 128 := by
  unfold letB at h
  simp only [Bool.or_eq_true, Bool.and_eq_true, decide_eq_true_eq] at h
  omega
theorem str_isEmpty (l : L) : (str l).toList.isEmpty = l.isEmpty := by
  rw [Go.Lib.toList_data, str_data]
theorem str_take (l : L) (k : Nat) : (str l).extract 0 k = str (l.take k) := by
  rw [str_extract]; simp
set_option maxHeartbeats 1600000 in
theorem rwords_any {w : World} {B : Nat} {A : Option Addr} {l : L} (h : Bts w B A l) (hB : B ≤ w.heap.size) (c : Nat) (hl : l.length ≤ 30000) :
    Calls Try.prog 11 #[.slice A l.length c] w (OutT w (wordsS l)) := by
  unfold OutT
  have HB : Hid (∀ X, Below w.heap.size w X → Bts X B A l) := Lib.hid fun X hX => h.below (hX.mono hB)
  have HP := Lib.hid part_any
  have HI := Lib.hid (RtSt.init l)
  have HNX : Hid (∀ cur i done, RtSt l cur i done → i < l.length → letB (l.getD i 0) = true → RtSt l (cur ++ [l.getD i 0]) (i + 1) done) := Lib.hid fun _ _ _ h h1 h2 => h.more h1 h2
  have HNO : Hid (∀ cur i done, RtSt l cur i done → i ≤ l.length → (i < l.length → letB (l.getD i 0) = false) → RtSt l [] (i + 1) (done ++ one cur)) := Lib.hid fun _ _ _ h h1 h2 => h.none h1 h2
  have HLO : Hid (∀ (r : L) W, r.length ≤ 1000000 → Calls Try.prog 19 #[.string (str (r.take 32))] W fun e w' => e = .returned (.string (str (wordS r))) ∧ Below W.heap.size W w') := Lib.hid fun r W hr => rlower_any (r.take 32) W (by rw [List.length_take]; omega)
  have HEQ : Hid (wordsS l = (runsG [] l).map wordS) := Lib.hid rfl
  rw [HEQ.out]
  clear h HEQ
  generalize hln : l.length = ln at *
  have HLN := Lib.hid hln
  clear hln
  go_enter Try.func11, Try.ntmps11
  go_wp2_with fail
  go_loopw [3, 4, 5] (fun x y z wr => ∃ (cur : L) (i : Nat) (done : List L), y = .string (str cur) ∧ z = .int .i64 i ∧ i ≤ ln + 1 ∧ Hid (RtSt l cur i done) ∧ Hid (OwnT wr w.heap.size x (done.map wordS)) ∧ Hid (Below w.heap.size w wr)) (fun _ _ z _ => ln + 1 - (intOf z).toNat)
  case atStart => exact ⟨[], 0, [], rfl, rfl, by omega, HI, Lib.hid (OwnT.nil _ _), Lib.hid (Below.refl _ _)⟩
  case round =>
    obtain ⟨cur, i, done, rfl, rfl, hi1, HST, HO, HBE⟩ := hrel
    have hcl : cur.length ≤ i := HST.out.le
    have hsz := str_size cur
    by_cases hi : i ≤ ln
    · by_cases hlt : i < ln
      · obtain ⟨ad, rfl, hab, hci⟩ := (HB.out wr HBE.out).at_ (k := i) (by rw [HLN.out]; exact hlt)
        have hog := Lib.hid (HP.out (l.getD i 0))
        have hadl : ad.block < wr.heap.size := by have := HBE.out.size; omega
        cases hlet : letB (l.getD i 0) with
        | true =>
          rw [hlet] at hog
          have HN := Lib.hid (HNX.out cur i done HST.out hlt hlet)
          have henc := enc_byte (l.getD i 0) (let_128 hlet)
          have hsz1 : (str [l.getD i 0]).size = 1 := str_size [l.getD i 0]
          have hcat := str_append cur [l.getD i 0]
          have hcn := let_128 hlet
          have hw32 : IntKind.i32.wrap ((l.getD i 0).toNat : Int) = (l.getD i 0).toNat := IntWalk.i32_in _ (by omega)
          have hs3 : (str cur).size ≤ 30000 := by omega
          clear hlet hsz
          generalize l.getD i 0 = cc at *
          generalize str [cc] = E at *
          generalize str cur = S at *
          generalize hT : str (cur ++ [cc]) = T at *
          have HT := Lib.hid hT
          clear hT hcl
          go_wp2_with (first
            | (refine (hog.out _).mono ?_; rintro e w3 ⟨rfl, rfl⟩)
            | fail)
          go_roundw
          case rel => exact ⟨cur ++ [cc], i + 1, done, by rw [HT.out], by go_num, by omega, HN, HO, HBE⟩
          case measure => first | (simp [intOf]; done) | (simp [intOf]; omega)
        | false =>
          rw [hlet] at hog
          have HN := Lib.hid (HNO.out cur i done HST.out hi (fun _ => hlet))
          clear hlet
          generalize l.getD i 0 = cc at *
          rcases Decidable.em (cur = []) with hc0 | hc0
          · subst hc0
            rw [one_nil, List.append_nil] at HN
            have e0 : str ([] : L) = ⟨#[]⟩ := rfl
            rw [e0]
            clear e0 hsz hcl
            go_wp2_with (first
              | (refine (hog.out _).mono ?_; rintro e w3 ⟨rfl, rfl⟩)
              | fail)
            go_roundw
            case rel => exact ⟨[], i + 1, done, rfl, by go_num, by omega, HN, HO, HBE⟩
            case measure => first | (simp [intOf]; done) | (simp [intOf]; omega)
          · rw [one_some hc0] at HN
            have hem : (str cur).toList.isEmpty = false := by rw [str_isEmpty]; cases cur with
              | nil => exact absurd rfl hc0
              | cons _ _ => rfl
            obtain ⟨m, hm⟩ : ∃ m, m = min cur.length 32 := ⟨_, rfl⟩
            have hmin : min (cur.length : Int) 32 = (m : Int) := by omega
            have hml : m ≤ cur.length := by omega
            have hext : (str cur).extract 0 m = str (cur.take 32) := by
              rw [str_take, hm]
              congr 1
              rcases Nat.le_total cur.length 32 with h1 | h1
              · rw [Nat.min_eq_left h1, List.take_length, List.take_of_length_le h1]
              · rw [Nat.min_eq_right h1]
            have HLC := Lib.hid (HLO.out cur wr (by omega))
            have hcnt : (done.map wordS).length ≤ i := by rw [List.length_map]; exact HST.out.cnt
            obtain ⟨Ax, cx, rfl, _, _⟩ := HO.out.slice
            have HMP : Hid ((done ++ [cur]).map wordS = done.map wordS ++ [wordS cur]) := Lib.hid (by simp)
            generalize hwd : wordS cur = wd at *
            generalize hdm : done.map wordS = dm at *
            generalize str (cur.take 32) = S2 at *
            generalize str cur = S at *
            have hcl2 : cur.length ≤ 30000 := by omega
            generalize cur.length = n at *
            clear hm hwd hdm hcl
            go_wp2_with (first
              | (refine (hog.out _).mono ?_; rintro e w3 ⟨rfl, rfl⟩)
              | fail)
            refine HLC.out.mono ?_
            rintro e w4 ⟨rfl, hb4⟩
            have HA := Lib.hid ((HO.out.below hb4).below (belowA w4 (.cells #[.string (str wd)] 9)))
            have HTX := Lib.hid (tx_lit w4 #[.string (str wd)] [wd] rfl (0, 0))
            have hz4 : w.heap.size ≤ w4.heap.size := Nat.le_trans HBE.out.size hb4.size
            have HB4 := Lib.hid ((HBE.out.trans (hb4.mono HBE.out.size)).alloc hz4 (.cells #[.string (str wd)] 9))
            clear hb4 HLC
            go_wp2_with (first
              | (refine lappTx (.tmp 33) (.tmp 40) rfl rfl (ps := dm) (qs := [wd]) rfl HA.out (A := some ⟨w4.heap.size, 0, none⟩) (m := 1) (c := 1) rfl HTX.out rfl (by omega) (by simp; omega) ?_; intro v5 w5 h1 h2; have HO5 := Lib.hid h1; have HG5 := Lib.hid h2; clear h1 h2)
              | fail)
            go_roundw
            case rel => exact ⟨[], i + 1, done ++ [cur], rfl, by go_num, by omega, HN, Lib.hid (by rw [HMP.out]; exact HO5.out), Lib.hid (HB4.out.grown HG5.out (by simp; omega) (fun k hk => ownT_low HA.out k hk))⟩
            case measure => first | (simp [intOf]; done) | (simp [intOf]; omega)
      · obtain rfl : i = ln := by omega
        have HN := Lib.hid (HNO.out cur i done HST.out hi (fun h => absurd h hlt))
        rcases Decidable.em (cur = []) with hc0 | hc0
        · subst hc0
          rw [one_nil, List.append_nil] at HN
          have e0 : str ([] : L) = ⟨#[]⟩ := rfl
          rw [e0]
          clear e0 hsz hcl
          go_wp2_with fail
          go_roundw
          case rel => exact ⟨[], i + 1, done, rfl, by go_num, by omega, HN, HO, HBE⟩
          case measure => first | (simp [intOf]; done) | (simp [intOf]; omega)
        · rw [one_some hc0] at HN
          have hem : (str cur).toList.isEmpty = false := by rw [str_isEmpty]; cases cur with
            | nil => exact absurd rfl hc0
            | cons _ _ => rfl
          obtain ⟨m, hm⟩ : ∃ m, m = min cur.length 32 := ⟨_, rfl⟩
          have hmin : min (cur.length : Int) 32 = (m : Int) := by omega
          have hml : m ≤ cur.length := by omega
          have hext : (str cur).extract 0 m = str (cur.take 32) := by
            rw [str_take, hm]
            congr 1
            rcases Nat.le_total cur.length 32 with h1 | h1
            · rw [Nat.min_eq_left h1, List.take_length, List.take_of_length_le h1]
            · rw [Nat.min_eq_right h1]
          have HLC := Lib.hid (HLO.out cur wr (by omega))
          have hcnt : (done.map wordS).length ≤ i := by rw [List.length_map]; exact HST.out.cnt
          obtain ⟨Ax, cx, rfl, _, _⟩ := HO.out.slice
          have HMP : Hid ((done ++ [cur]).map wordS = done.map wordS ++ [wordS cur]) := Lib.hid (by simp)
          generalize hwd : wordS cur = wd at *
          generalize hdm : done.map wordS = dm at *
          generalize str (cur.take 32) = S2 at *
          generalize str cur = S at *
          have hcl2 : cur.length ≤ 30000 := by omega
          generalize cur.length = n at *
          clear hm hwd hdm hcl
          go_wp2_with fail
          refine HLC.out.mono ?_
          rintro e w4 ⟨rfl, hb4⟩
          have HA := Lib.hid ((HO.out.below hb4).below (belowA w4 (.cells #[.string (str wd)] 9)))
          have HTX := Lib.hid (tx_lit w4 #[.string (str wd)] [wd] rfl (0, 0))
          have hz4 : w.heap.size ≤ w4.heap.size := Nat.le_trans HBE.out.size hb4.size
          have HB4 := Lib.hid ((HBE.out.trans (hb4.mono HBE.out.size)).alloc hz4 (.cells #[.string (str wd)] 9))
          clear hb4 HLC
          go_wp2_with (first
            | (refine lappTx (.tmp 33) (.tmp 40) rfl rfl (ps := dm) (qs := [wd]) rfl HA.out (A := some ⟨w4.heap.size, 0, none⟩) (m := 1) (c := 1) rfl HTX.out rfl (by omega) (by simp; omega) ?_; intro v5 w5 h1 h2; have HO5 := Lib.hid h1; have HG5 := Lib.hid h2; clear h1 h2)
            | fail)
          go_roundw
          case rel => exact ⟨[], i + 1, done ++ [cur], rfl, by go_num, by omega, HN, Lib.hid (by rw [HMP.out]; exact HO5.out), Lib.hid (HB4.out.grown HG5.out (by simp; omega) (fun k hk => ownT_low HA.out k hk))⟩
          case measure => first | (simp [intOf]; done) | (simp [intOf]; omega)
    · obtain rfl : i = ln + 1 := by omega
      have HE := Lib.hid (HST.out.end_ (by rw [HLN.out]))
      obtain ⟨Ax, cx, rfl, _, _⟩ := HO.out.slice
      go_wp2_with fail
      go_ret
      exact ⟨_, rfl, by rw [← HE.out]; exact HO.out, HBE.out⟩
end Tk
end Go.Proofs.Ytbhkppleomnjjaa
