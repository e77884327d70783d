/- DkNames DkRefuse DkFind. Conditions: as stated at each. -/
import Derived.Test.YtidadjlhnlmfkaaGreatDoorProg
import Derived.WalkKit
import Derived.LoopTactic
import Derived.Outline
import Derived.Lib.Hide
import Derived.Test.YtidadjlhnlmfkaaGreatDoorKt07
/- The name rule of the disk and of the document's answer agree on every string: walks of the two functions and of the byte's test. Conditions: none. -/
namespace Go.Proofs.YtidadjlhnlmfkaaGreatDoor
set_option maxRecDepth 100000
open Go.RowKit Go
def nb (n : Int) : Bool := (97 ≤ n && n ≤ 122) || (48 ≤ n && n ≤ 57) || n == 45 || n == 46
theorem nb_t {n : Int} (h : (97 ≤ n ∧ n ≤ 122) ∨ (48 ≤ n ∧ n ≤ 57) ∨ n = 45 ∨ n = 46) : true = nb n := by
  unfold nb; simp; omega
theorem nb_f {n : Int} (h : ¬ ((97 ≤ n ∧ n ≤ 122) ∨ (48 ≤ n ∧ n ≤ 57) ∨ n = 45 ∨ n = 46)) : false = nb n := by
  symm; rw [Bool.eq_false_iff]; unfold nb; simp; omega
theorem ret_bool {a b : Bool} (h : a = b) : Ending.returned (.bool a) = .returned (.bool b) := by rw [h]
set_option maxHeartbeats 400000 in
theorem nameByte_any (n : Int) (w : World) (h0 : 0 ≤ n) (h1 : n ≤ 255) :
    Calls Tryz.prog 49 #[.int .u8 n] w fun e w' => e = .returned (.bool (nb n)) ∧ w = w' := by
  by_cases c1 : 97 ≤ n
  · by_cases c2 : n ≤ 122
    · go_enter Tryz.func49, Tryz.ntmps49
      go_wp2
      go_ret
      exact ⟨ret_bool (nb_t (by omega)), rfl⟩
    · have c3 : (n == 45) = false := by simp; omega
      have c4 : (n == 46) = false := by simp; omega
      have c7 : ¬ n ≤ 57 := by omega
      go_enter Tryz.func49, Tryz.ntmps49
      go_wp2
      go_ret
      exact ⟨ret_bool (nb_f (by omega)), rfl⟩
  · by_cases c5 : 48 ≤ n
    · by_cases c6 : n ≤ 57
      · go_enter Tryz.func49, Tryz.ntmps49
        go_wp2
        go_ret
        exact ⟨ret_bool (nb_t (by omega)), rfl⟩
      · have c3 : (n == 45) = false := by simp; omega
        have c4 : (n == 46) = false := by simp; omega
        go_enter Tryz.func49, Tryz.ntmps49
        go_wp2
        go_ret
        exact ⟨ret_bool (nb_f (by omega)), rfl⟩
    · by_cases c3 : n = 45
      · subst c3
        go_enter Tryz.func49, Tryz.ntmps49
        go_wp2
        go_ret
        exact ⟨rfl, rfl⟩
      · by_cases c4 : n = 46
        · subst c4
          go_enter Tryz.func49, Tryz.ntmps49
          go_wp2
          go_ret
          exact ⟨rfl, rfl⟩
        · have c3' : (n == 45) = false := by simp; omega
          have c4' : (n == 46) = false := by simp; omega
          have c3n := Lib.hid c3
          have c4n := Lib.hid c4
          clear c3 c4
          go_enter Tryz.func49, Tryz.ntmps49
          go_wp2
          go_ret
          exact ⟨ret_bool (nb_f (by have := c3n.out; have := c4n.out; omega)), rfl⟩
/-- all of the first k bytes may be. -/
def allNb (s : ByteArray) (k : Nat) : Bool := (s.data.toList.take k).all fun c => nb c.toNat
def nameB (s : ByteArray) : Bool := decide (1 ≤ s.size) && decide (s.size ≤ 64) && allNb s s.size
theorem take_snoc (s : ByteArray) (k : Nat) (h : k < s.size) : s.data.toList.take (k + 1) = s.data.toList.take k ++ [s[k]] := by
  rw [List.take_succ_eq_append_getElem (by simpa using h)]; rfl
theorem allNb_succ (s : ByteArray) (k : Nat) (h : k < s.size) : allNb s (k + 1) = (allNb s k && nb (s[k].toNat : Int)) := by
  unfold allNb; rw [take_snoc s k h]; simp
theorem allNb_full (s : ByteArray) (k : Nat) (h : s.size ≤ k) : allNb s k = allNb s s.size := by
  unfold allNb
  rw [List.take_of_length_le (by simpa using h), List.take_of_length_le (by simp)]
theorem allNb_false (s : ByteArray) (k : Nat) (hk : k < s.size) (h : nb (s[k].toNat : Int) = false) : allNb s s.size = false := by
  rw [Bool.eq_false_iff]
  intro ha
  unfold allNb at ha
  rw [List.all_eq_true] at ha
  have := ha s[k] (by rw [List.take_of_length_le (by simp)]; exact Array.getElem_mem_toList (xs := s.data) (i := k) hk)
  rw [h] at this
  cases this
theorem nameB_t (s : ByteArray) (k : Nat) (h1 : 1 ≤ s.size) (h2 : s.size ≤ 64) (hk : s.size ≤ k) (ha : allNb s k = true) : true = nameB s := by
  rw [allNb_full s k hk] at ha
  unfold nameB; rw [ha, decide_eq_true h1, decide_eq_true h2]; rfl
theorem nameB_short (s : ByteArray) (h : ¬ 1 ≤ s.size) : false = nameB s := by
  unfold nameB; rw [decide_eq_false h]; rfl
theorem nameB_long (s : ByteArray) (h : ¬ s.size ≤ 64) : false = nameB s := by
  unfold nameB; rw [decide_eq_false h]; simp
theorem nameB_bad (s : ByteArray) (h : allNb s s.size = false) : false = nameB s := by
  unfold nameB; rw [h]; simp
set_option maxHeartbeats 400000 in
theorem diskName_any (s : ByteArray) (w : World) (hs : s.size ≤ maxLen) :
    Calls Tryz.prog 21 #[.string s] w fun e w' => e = .returned (.bool (nameB s)) ∧ w = w' := by
  unfold maxLen at hs
  by_cases h1 : s.size < 1
  · have hb : false = nameB s := by unfold nameB; simp; omega
    have HB := Lib.hid hb
    clear hb
    have h2 : ¬ 64 < s.size := by omega
    go_enter Tryz.func21, Tryz.ntmps21
    go_wp2_with fail
    go_ret
    exact ⟨ret_bool HB.out, rfl⟩
  · by_cases h2 : 64 < s.size
    · have hb : false = nameB s := by unfold nameB; simp; omega
      have HB := Lib.hid hb
      clear hb
      go_enter Tryz.func21, Tryz.ntmps21
      go_wp2_with fail
      go_ret
      exact ⟨ret_bool HB.out, rfl⟩
    · have hb : nameB s = allNb s s.size := by unfold nameB; simp; omega
      have HB := Lib.hid hb
      clear hb
      go_enter Tryz.func21, Tryz.ntmps21
      go_wp2_with fail
      go_loop [14] (fun i => ∃ k : Nat, k ≤ s.size ∧ i = .int .i64 k ∧ allNb s k = true) (fun i => s.size - (intOf i).toNat)
      case atStart => exact ⟨0, Nat.zero_le _, rfl, rfl⟩
      case round =>
        obtain ⟨k, hk, rfl, ha⟩ := hrel
        have HA := Lib.hid ha
        clear ha
        by_cases hlt : k < s.size
        · have hn2 := s[k].toNat_lt
          cases hn : nb (s[k].toNat : Int)
          · have HF := Lib.hid (allNb_false s k hlt hn)
            go_wp2_with (go_at_call 49; refine (nameByte_any _ _ (by omega) (by omega)).mono ?_; rintro e w' ⟨rfl, rfl⟩)
            go_ret
            exact ⟨ret_bool (by rw [HB.out, HF.out]), rfl⟩
          · have HS := Lib.hid (allNb_succ s k hlt)
            go_wp2_with (go_at_call 49; refine (nameByte_any _ _ (by omega) (by omega)).mono ?_; rintro e w' ⟨rfl, rfl⟩)
            go_round
            case rel => exact ⟨k + 1, by omega, by go_num, by rw [HS.out, HA.out, hn]; rfl⟩
            case measure => simp [intOf]; omega
        · go_wp2_with fail
          go_ret
          exact ⟨ret_bool (by rw [HB.out, ← allNb_full s k (by omega), HA.out]), rfl⟩
end Go.Proofs.YtidadjlhnlmfkaaGreatDoor
/- (*disk.Disk).refuse at whatever state and names. Conditions: as stated at each. -/
namespace Go.Proofs.YtidadjlhnlmfkaaGreatDoor
set_option maxRecDepth 100000
open Go.RowKit Go
theorem Strs.at_ {w : World} {A : Option Addr} {ss : List ByteArray} (h : Strs w A ss) {k : Nat} (hk : k < ss.length) : (ss.getD k ByteArray.empty).size ≤ maxLen ∧ ∃ ad, A = some ad ∧ w.cell? (ad.add k) = some (.string (ss.getD k ByteArray.empty)) := h k _ (by simp [List.getD, hk])
theorem names_next (ss : List ByteArray) (k : Nat) (h : k < ss.length) : (ss.take (k + 1)).all nameB = ((ss.take k).all nameB && nameB (ss.getD k ByteArray.empty)) := by
  rw [List.take_succ_eq_append_getElem h, List.getD, List.getElem?_eq_getElem h, List.all_append, List.all_cons, List.all_nil, Bool.and_true]; rfl
theorem names_bad (ss : List ByteArray) (k : Nat) (h : k < ss.length) (hs : nameB (ss.getD k ByteArray.empty) = false) : ss.all nameB = false := by
  rw [List.all_eq_false]
  exact ⟨ss.getD k ByteArray.empty, by rw [List.getD, List.getElem?_eq_getElem h]; exact List.getElem_mem h, by rw [hs]; simp⟩
/-- what refuse answers of names. -/
def refN (ss : List ByteArray) : Int := if ss.all nameB = true then 0 else 12
theorem refN_yes {ss : List ByteArray} (h : ss.all nameB = true) : refN ss = 0 := by unfold refN; rw [if_pos h]
theorem refN_no {ss : List ByteArray} (h : ss.all nameB = false) : refN ss = 12 := by unfold refN; rw [h]; rfl
theorem ret_i {a b : Int} (h : a = b) : Ending.returned (.int .i64 a) = .returned (.int .i64 b) := by rw [h]
set_option maxHeartbeats 400000 in
theorem refuse_down (W : World) (Dk M : Nat) (v : Value) (c0 : W.cell? ⟨Dk, 0, none⟩ = some (.map (some M))) (c4 : W.cell? ⟨Dk, 4, none⟩ = some (.bool true)) :
    Calls Tryz.prog 56 #[.pointer (some ⟨Dk, 0, none⟩), v] W fun e w' => e = .returned (.int .i64 10) ∧ W = w' := by
  go_enter Tryz.func56, Tryz.ntmps56
  go_wp2_with (go_at_call 20; refine (down_any _ Dk M true c0 c4).mono ?_; rintro e w' ⟨rfl, rfl⟩)
  go_ret
  exact ⟨rfl, rfl⟩
set_option maxHeartbeats 800000 in
theorem refuse_up (W : World) (Dk M c : Nat) (A : Option Addr) (ss : List ByteArray) (hs : Strs W A ss) (hl : ss.length ≤ maxLen) (c0 : W.cell? ⟨Dk, 0, none⟩ = some (.map (some M))) (c4 : W.cell? ⟨Dk, 4, none⟩ = some (.bool false)) :
    Calls Tryz.prog 56 #[.pointer (some ⟨Dk, 0, none⟩), .slice A ss.length c] W fun e w' => e = .returned (.int .i64 (refN ss)) ∧ W = w' := by
  unfold maxLen at hl
  go_enter Tryz.func56, Tryz.ntmps56
  go_wp2_with (go_at_call 20; refine (down_any _ Dk M false c0 c4).mono ?_; rintro e w' ⟨rfl, rfl⟩)
  go_loop [11] (fun i => ∃ k : Nat, k ≤ ss.length ∧ i = .int .i64 k ∧ (ss.take k).all nameB = true) (fun i => ss.length - (intOf i).toNat)
  case atStart => exact ⟨0, Nat.zero_le _, rfl, by simp⟩
  case round =>
    obtain ⟨k, hk, rfl, ha⟩ := hrel
    have HA := Lib.hid ha
    clear ha
    by_cases hlt : k < ss.length
    · obtain ⟨hsz, ad, rfl, hcell⟩ := hs.at_ hlt
      have HN := Lib.hid (names_next ss k hlt)
      have HF := Lib.hid (names_bad ss k hlt)
      generalize ss.getD k ByteArray.empty = s at *
      cases hb : nameB s
      · have HB := Lib.hid (HF.out hb)
        have hc : Calls Tryz.prog 21 #[.string s] W fun e w' => e = .returned (.bool false) ∧ W = w' := by
          have := diskName_any s W hsz
          rw [hb] at this
          exact this
        clear hb
        go_wp2_with (go_at_call 21; refine hc.mono ?_; rintro e w' ⟨rfl, rfl⟩)
        go_ret
        exact ⟨ret_i (refN_no HB.out).symm, rfl⟩
      · have HB := Lib.hid hb
        have hc : Calls Tryz.prog 21 #[.string s] W fun e w' => e = .returned (.bool true) ∧ W = w' := by
          have := diskName_any s W hsz
          rw [hb] at this
          exact this
        clear hb
        go_wp2_with (go_at_call 21; refine hc.mono ?_; rintro e w' ⟨rfl, rfl⟩)
        go_round
        case rel => exact ⟨k + 1, by omega, by go_num, by rw [HN.out, HA.out, HB.out]; rfl⟩
        case measure => simp [intOf]; omega
    · obtain rfl : k = ss.length := by omega
      have hall : ss.all nameB = true := by
        have := HA.out
        rwa [List.take_length] at this
      have HL := Lib.hid hall
      clear hall
      go_wp2_with fail
      go_ret
      exact ⟨ret_i (refN_yes HL.out).symm, rfl⟩
end Go.Proofs.YtidadjlhnlmfkaaGreatDoor
/- (*disk.Disk).find at whatever state. Conditions: as stated at each. -/
namespace Go.Proofs.YtidadjlhnlmfkaaGreatDoor
set_option maxRecDepth 100000
open Go.RowKit Go
theorem look_ok_none {w : World} {M n : Nat} {D : DataW Value} {s : ByteArray} (hM : MapIs w M n D) (hs : s.size ≤ maxLen) (h : at_ D s = none) :
    (Instr.lookup 53 (.map (some M)) (.string s) true).run Tryz.prog w = .ok (.tuple #[.agg #[.slice none 0 0, .int .i64 0], .bool false]) w := by
  rw [held_look hM Tryz.underlying9 Tryz.underlying53 hs (zero58 w) true, h]; rfl
theorem look_ok_some {w : World} {M n : Nat} {D : DataW Value} {s : ByteArray} {v : Value} (hM : MapIs w M n D) (hs : s.size ≤ maxLen) (h : at_ D s = some v) :
    (Instr.lookup 53 (.map (some M)) (.string s) true).run Tryz.prog w = .ok (.tuple #[v, .bool true]) w := by
  rw [held_look hM Tryz.underlying9 Tryz.underlying53 hs (zero58 w) true, h]; rfl
def FindP (W : World) (v : Value) (x : Int) (e : Ending) (w' : World) : Prop := e = .returned (.tuple #[v, .int .i64 x]) ∧ Below W.heap.size W w'
def zeroFile : Value := .agg #[.slice none 0 0, .int .i64 0]
set_option maxHeartbeats 800000 in
theorem find_down (W : World) (Dk M : Nat) (u : Value) (c0 : W.cell? ⟨Dk, 0, none⟩ = some (.map (some M))) (c4 : W.cell? ⟨Dk, 4, none⟩ = some (.bool true)) (hl : Dk < W.heap.size) :
    Calls Tryz.prog 47 #[.pointer (some ⟨Dk, 0, none⟩), u] W fun e w' => FindP W zeroFile 10 e w' := by
  have k0 := fun o => World.cell?_alloc_lt W o ⟨Dk, 0, none⟩ hl
  have k4 := fun o => World.cell?_alloc_lt W o ⟨Dk, 4, none⟩ hl
  have hr := fun o => refuse_down (W.alloc o) Dk M u ((k0 o).trans c0) ((k4 o).trans c4)
  clear k0 k4
  go_enter Tryz.func47, Tryz.ntmps47
  go_wp2_with (go_at_call 56; refine (hr _).mono ?_; rintro e w' ⟨rfl, rfl⟩)
  refine bodyPost_ret (v := .tuple #[zeroFile, .int .i64 10]) (by simp [results, Tryz.results47, go_sem, zeroFile]) rfl ⟨rfl, ?_⟩
  exact (Below.refl _ _).alloc (Nat.le_refl _) _
set_option maxHeartbeats 1600000 in
theorem find_bad (W : World) (Dk M c : Nat) (A : Option Addr) (ss : List ByteArray) (r x l : Value)
    (hD : BlkIs W Dk 55 #[.map (some M), r, x, l, .bool false]) (hS : Strs W A ss) (hSl : ∀ ad, A = some ad → ad.block < W.heap.size) (hl : ss.length ≤ maxLen) (hn : ss.all nameB = false) :
    Calls Tryz.prog 47 #[.pointer (some ⟨Dk, 0, none⟩), .slice A ss.length c] W fun e w' => FindP W zeroFile 12 e w' := by
  have hb1 := (Below.refl W.heap.size W).alloc (Nat.le_refl _) (.cells #[.slice none 0 0, .int .i64 0] 71)
  have hS1 : Strs (W.alloc (.cells #[.slice none 0 0, .int .i64 0] 71)) A ss := fun k s' h => by
    obtain ⟨h1, ad', e, h2⟩ := hS k s' h
    exact ⟨h1, ad', e, (hb1.cell (by rw [blk_add]; exact hSl ad' e)).trans h2⟩
  have hr := refuse_up (W.alloc (.cells #[.slice none 0 0, .int .i64 0] 71)) Dk M c A ss hS1 hl ((hD.alloc _).cell 0) ((hD.alloc _).cell 4)
  rw [refN_no hn] at hr
  go_enter Tryz.func47, Tryz.ntmps47
  go_wp2_with fail
  refine hr.mono ?_
  rintro e w' ⟨rfl, rfl⟩
  go_wp2_with fail
  refine bodyPost_ret (v := .tuple #[zeroFile, .int .i64 12]) (by simp [results, Tryz.results47, go_sem, zeroFile]) rfl ⟨rfl, ?_⟩
  exact hb1
set_option maxHeartbeats 1600000 in
theorem find_some (W : World) (Dk M k c : Nat) (D : DataW Value) (A : Option Addr) (s : ByteArray) (ss : List ByteArray) (r x l : Value) (a : Option Addr) (n cc : Nat) (z : Int)
    (hD : BlkIs W Dk 55 #[.map (some M), r, x, l, .bool false]) (hM : MapIs W M k D) (hS : Strs W A (s :: ss)) (hSl : ∀ ad, A = some ad → ad.block < W.heap.size) (hl : (s :: ss).length ≤ maxLen) (hn : (s :: ss).all nameB = true) (ha : at_ D s = some (.agg #[.slice a n cc, .int .i64 z])) :
    Calls Tryz.prog 47 #[.pointer (some ⟨Dk, 0, none⟩), .slice A (ss.length + 1) c] W fun e w' => FindP W (.agg #[.slice a n cc, .int .i64 z]) 0 e w' := by
  obtain ⟨hsz, ad, rfl, hcell⟩ := hS 0 s rfl
  have hadl := hSl ad rfl
  have hb1 := (Below.refl W.heap.size W).alloc (Nat.le_refl _) (.cells #[.slice none 0 0, .int .i64 0] 71)
  have hS1 : Strs (W.alloc (.cells #[.slice none 0 0, .int .i64 0] 71)) (some ad) (s :: ss) := fun k s' h => by
    obtain ⟨h1, ad', e, h2⟩ := hS k s' h
    cases e
    exact ⟨h1, ad, rfl, (hb1.cell (by rw [blk_add]; exact hadl)).trans h2⟩
  have hr := refuse_up (W.alloc (.cells #[.slice none 0 0, .int .i64 0] 71)) Dk M c (some ad) (s :: ss) hS1 hl ((hD.alloc _).cell 0) ((hD.alloc _).cell 4)
  rw [refN_yes hn] at hr
  have hD1 := hD.alloc (.cells #[.slice none 0 0, .int .i64 0] 71)
  have hM1 := Held.same hM (Below.heap_alloc W (.cells #[.slice none 0 0, .int .i64 0] 71) M (Held.lt hM))
  have hF1 := BlkIs.new W 71 #[.slice none 0 0, .int .i64 0]
  have hc1 := (hb1.cell (p := ad) hadl).trans hcell
  have hz : W.heap.size < (W.alloc (.cells #[.slice none 0 0, .int .i64 0] 71)).heap.size := by simp
  go_enter Tryz.func47, Tryz.ntmps47
  go_wp2_with fail
  refine hr.mono ?_
  rintro e w' ⟨rfl, rfl⟩
  generalize W.alloc (.cells #[.slice none 0 0, .int .i64 0] 71) = W1 at *
  have hl1 := look_ok_some (w := W1.drew) hM1 hsz ha
  have hl2 := fun o => look_ok_some (w := (W1.alloc o).drew) (Held.same hM1 (Below.heap_alloc W1 o M (Held.lt hM1))) hsz ha
  have hx0 : ∀ w (v u : Value), (Instr.extract (.tuple #[v, u]) 0).run Tryz.prog w = .ok v w := fun _ _ _ => by kernel_rfl
  have hx1 : ∀ w (v u : Value), (Instr.extract (.tuple #[v, u]) 1).run Tryz.prog w = .ok u w := fun _ _ _ => by kernel_rfl
  have d0 := hD1.cell 0
  have dl := hD1.lt
  have al : ad.block < W1.heap.size := by omega
  have b0 : 0 < ss.length + 1 := by omega
  go_wp2_with fail
  go_region
  have q0 := hF1.cell 0
  have q1 := hF1.cell 1
  have g0 := hF1.froz 0
  have g1 := hF1.froz 1
  have ql := hF1.lt
  go_wp2_with fail
  have hF2 := ((hF1.put 0 (.slice a n cc)).put 1 (.int .i64 z)).alloc (.cells #[.slice a n cc, .int .i64 z] 71)
  have e0 := hF2.cell 0
  have e1 := hF2.cell 1
  have hB := (((hb1.setCell (p := ⟨W.heap.size, 0, none⟩) (Nat.le_refl _) (.slice a n cc)).setCell (p := ⟨W.heap.size, 1, none⟩) (Nat.le_refl _) (.int .i64 z)).alloc (by simp [World.setCell]; omega) (.cells #[.slice a n cc, .int .i64 z] 71)).drew
  simp only [Array.setIfInBounds, List.size_toArray, List.length_cons, List.length_nil, Nat.reduceAdd, Nat.reduceLT, Nat.zero_lt_succ, dite_true, List.set_toArray, List.set_cons_zero, List.set_cons_succ] at e0 e1
  refine bodyPost_ret (v := .tuple #[.agg #[.slice a n cc, .int .i64 z], .int .i64 0]) (by simp [results, Tryz.results47, go_sem, e0, e1]) rfl ⟨rfl, hB⟩
set_option maxHeartbeats 1600000 in
theorem find_none (W : World) (Dk M k c : Nat) (D : DataW Value) (A : Option Addr) (s : ByteArray) (ss : List ByteArray) (r x l : Value)
    (hD : BlkIs W Dk 55 #[.map (some M), r, x, l, .bool false]) (hM : MapIs W M k D) (hS : Strs W A (s :: ss)) (hSl : ∀ ad, A = some ad → ad.block < W.heap.size) (hl : (s :: ss).length ≤ maxLen) (hn : (s :: ss).all nameB = true) (ha : at_ D s = none) :
    Calls Tryz.prog 47 #[.pointer (some ⟨Dk, 0, none⟩), .slice A (ss.length + 1) c] W fun e w' => FindP W zeroFile 3 e w' := by
  obtain ⟨hsz, ad, rfl, hcell⟩ := hS 0 s rfl
  have hadl := hSl ad rfl
  have hb1 := (Below.refl W.heap.size W).alloc (Nat.le_refl _) (.cells #[.slice none 0 0, .int .i64 0] 71)
  have hS1 : Strs (W.alloc (.cells #[.slice none 0 0, .int .i64 0] 71)) (some ad) (s :: ss) := fun k s' h => by
    obtain ⟨h1, ad', e, h2⟩ := hS k s' h
    cases e
    exact ⟨h1, ad, rfl, (hb1.cell (by rw [blk_add]; exact hadl)).trans h2⟩
  have hr := refuse_up (W.alloc (.cells #[.slice none 0 0, .int .i64 0] 71)) Dk M c (some ad) (s :: ss) hS1 hl ((hD.alloc _).cell 0) ((hD.alloc _).cell 4)
  rw [refN_yes hn] at hr
  have hD1 := hD.alloc (.cells #[.slice none 0 0, .int .i64 0] 71)
  have hM1 := Held.same hM (Below.heap_alloc W (.cells #[.slice none 0 0, .int .i64 0] 71) M (Held.lt hM))
  have hF1 := BlkIs.new W 71 #[.slice none 0 0, .int .i64 0]
  have hc1 := (hb1.cell (p := ad) hadl).trans hcell
  have hz : W.heap.size < (W.alloc (.cells #[.slice none 0 0, .int .i64 0] 71)).heap.size := by simp
  go_enter Tryz.func47, Tryz.ntmps47
  go_wp2_with fail
  refine hr.mono ?_
  rintro e w' ⟨rfl, rfl⟩
  generalize W.alloc (.cells #[.slice none 0 0, .int .i64 0] 71) = W1 at *
  have hl1 := look_ok_none (w := W1.drew) hM1 hsz ha
  have hl2 := fun o => look_ok_none (w := (W1.alloc o).drew) (Held.same hM1 (Below.heap_alloc W1 o M (Held.lt hM1))) hsz ha
  have hx0 : ∀ w (v u : Value), (Instr.extract (.tuple #[v, u]) 0).run Tryz.prog w = .ok v w := fun _ _ _ => by kernel_rfl
  have hx1 : ∀ w (v u : Value), (Instr.extract (.tuple #[v, u]) 1).run Tryz.prog w = .ok u w := fun _ _ _ => by kernel_rfl
  have d0 := hD1.cell 0
  have dl := hD1.lt
  have al : ad.block < W1.heap.size := by omega
  have b0 : 0 < ss.length + 1 := by omega
  go_wp2_with fail
  go_region
  have q0 := hF1.cell 0
  have q1 := hF1.cell 1
  have g0 := hF1.froz 0
  have g1 := hF1.froz 1
  have ql := hF1.lt
  go_wp2_with fail
  have hF2 := ((hF1.put 0 (.slice none 0 0)).put 1 (.int .i64 0)).alloc (.cells #[.slice none 0 0, .int .i64 0] 71)
  have e0 := hF2.cell 0
  have e1 := hF2.cell 1
  have hB := (((hb1.setCell (p := ⟨W.heap.size, 0, none⟩) (Nat.le_refl _) (.slice none 0 0)).setCell (p := ⟨W.heap.size, 1, none⟩) (Nat.le_refl _) (.int .i64 0)).alloc (by simp [World.setCell]; omega) (.cells #[.slice none 0 0, .int .i64 0] 71)).drew
  simp only [Array.setIfInBounds, List.size_toArray, List.length_cons, List.length_nil, Nat.reduceAdd, Nat.reduceLT, Nat.zero_lt_succ, dite_true, List.set_toArray, List.set_cons_zero, List.set_cons_succ] at e0 e1
  refine bodyPost_ret (v := .tuple #[zeroFile, .int .i64 3]) (by simp [results, Tryz.results47, go_sem, e0, e1, zeroFile]) rfl ⟨rfl, hB⟩
end Go.Proofs.YtidadjlhnlmfkaaGreatDoor
