/- strings.IndexAny at the bytes 13 10, of any text. Conditions: as stated at each. -/
import Derived.Test.YtliaciojlcajdaaDoorHdSmall
import Derived.Laws.RangeAny
import Derived.Lib.OthersKept
import Derived.WalkMore
namespace Go.Proofs.YtliaciojlcajdaaDoor
set_option maxRecDepth 100000
namespace Hd
open Go.RowKit Go Go.Proofs.YtliaciojlcajdaaDoor.Pa
theorem enc_facts (r : Int) (h : 128 ≤ r) (e : ByteArray) (he : e = Utf8.encode r) : 2 ≤ e.size ∧ e.size ≤ 4 ∧ ∀ (h1 : 1 < e.size), e.size = 2 → 128 ≤ (e[1]'h1).toNat := by
  have hc : ∃ c : Nat, 128 ≤ c ∧ e = (if c < 0x80 then ⟨#[UInt8.ofNat c]⟩ else if c < 0x800 then ⟨#[UInt8.ofNat (0xC0 + c / 64), UInt8.ofNat (0x80 + c % 64)]⟩ else if c < 0x10000 then ⟨#[UInt8.ofNat (0xE0 + c / 4096), UInt8.ofNat (0x80 + c / 64 % 64), UInt8.ofNat (0x80 + c % 64)]⟩
      else ⟨#[UInt8.ofNat (0xF0 + c / 262144), UInt8.ofNat (0x80 + c / 4096 % 64), UInt8.ofNat (0x80 + c / 64 % 64), UInt8.ofNat (0x80 + c % 64)]⟩) := by
    refine ⟨if Utf8.valid r then r.toNat else Utf8.runeError, ?_, he⟩
    split
    · omega
    · decide
  obtain ⟨c, hc1, hc2⟩ := hc
  rw [if_neg (by omega)] at hc2
  by_cases h1 : c < 0x800
  · rw [if_pos h1] at hc2
    subst hc2
    refine ⟨Nat.le_refl 2, Nat.le_of_ble_eq_true rfl, fun _ _ => ?_⟩
    show 128 ≤ (UInt8.ofNat (0x80 + c % 64)).toNat
    simp
    omega
  · rw [if_neg h1] at hc2
    by_cases h2 : c < 0x10000
    · rw [if_pos h2] at hc2
      subst hc2
      exact ⟨Nat.le_of_ble_eq_true rfl, Nat.le_of_ble_eq_true rfl, fun _ h => by cases h⟩
    · rw [if_neg h2] at hc2
      subst hc2
      exact ⟨Nat.le_of_ble_eq_true rfl, Nat.le_of_ble_eq_true rfl, fun _ h => by cases h⟩
def VP (w : World) (e : Ending) (w' : World) : Prop := ∃ b, e = .returned (.bool b) ∧ w' = w
theorem valid_any (r : Int) (w : World) : Calls Tryd.prog 89 #[.int .i32 r] w (VP w) := by
  go_enter Tryd.func89, Tryd.ntmps89
  go_wp2
  all_goals
    go_ret
    exact ⟨_, rfl, rfl⟩
set_option maxHeartbeats 1600000 in
theorem irune_hi (r : Int) (w : World) (h : 128 ≤ r) : Calls Tryd.prog 81 #[.string ⟨#[13, 10]⟩, .int .i32 r] w fun e w' => e = .returned (.int .i64 (-1)) ∧ Below w.heap.size w w' := by
  have HV := Lib.hid (valid_any r)
  have hlt : ¬ r < 128 := by omega
  have h0 : (0 : Int) ≤ r := by omega
  obtain ⟨e, he⟩ : ∃ e, e = Utf8.encode r := ⟨_, rfl⟩
  have hef := enc_facts r h e he
  by_cases h3 : r = 65533
  · subst h3
    clear hef he
    go_enter Tryd.func81, Tryd.ntmps81
    go_wp2_with fail
    go_loopg [5, 6] 2 (fun g _ _ wx => ∃ i : Nat, i + g = 2 ∧ wx = w.iter ⟨#[13, 10]⟩ i)
    case atStart => exact ⟨0, by omega, rfl⟩
    case round =>
      obtain ⟨i, hig, rfl⟩ := hrel
      cases gk with
      | zero =>
        obtain rfl : i = 2 := by omega
        have hnx := fun ty => run_next_end (P := Tryd.prog) w ⟨#[13, 10]⟩ 2 ty (by decide)
        go_wp2_with fail
        go_ret
        exact ⟨rfl, (Below.refl _ _).alloc (Nat.le_refl _) _⟩
      | succ g =>
        have hi : i = 0 ∨ i = 1 := by omega
        rcases hi with rfl | rfl
        · have hnx := fun ty => run_next_ascii (P := Tryd.prog) w ⟨#[13, 10]⟩ 0 ty (by decide) (by decide)
          go_wp2_with fail
          go_roundg g
          case measure => omega
          case rel => exact ⟨1, by omega, rfl⟩
        · have hnx := fun ty => run_next_ascii (P := Tryd.prog) w ⟨#[13, 10]⟩ 1 ty (by decide) (by decide)
          go_wp2_with fail
          go_roundg g
          case measure => omega
          case rel => exact ⟨2, by omega, rfl⟩
  · have h3' : (r == 65533) = false := beq_eq_false_iff_ne.2 h3
    go_enter Tryd.func81, Tryd.ntmps81
    go_wp2_with (first
      | (go_at_call 89; refine (HV.out _).mono ?_; rintro e w' ⟨b, rfl, rfl⟩)
      | fail)
    · go_ret
      exact ⟨rfl, Below.refl _ _⟩
    have hcv : ∀ w, (convert 21 9 (.int .i32 r)).run Tryd.prog w = .ok (.string e) w := fun w => by
      rw [he]
      exact run_convert_int_string w 21 9 .i32 r (by kernel_rfl) Tryd.underlying9
    clear he h3 h3'
    obtain ⟨e2, e4, e1⟩ := hef
    rcases (show e.size = 2 ∨ 3 ≤ e.size by omega) with hs | hs
    · obtain ⟨x, y, rfl⟩ : ∃ x y, e = ⟨#[x, y]⟩ := by
        obtain ⟨⟨l⟩⟩ := e
        match l, hs with
        | [x, y], _ => exact ⟨x, y, rfl⟩
      have hb1 : 128 ≤ y.toNat := e1 (Nat.le_of_ble_eq_true rfl) rfl
      have hx : ((10 : Int) != (y.toNat : Int)) = true := by rw [bne_iff_ne]; omega
      have hx2 : ¬ (10 : Int) = (y.toNat : Int) := by omega
      have hx3 : ((10 : Int) == (y.toNat : Int)) = false := by rw [beq_eq_false_iff_ne]; omega
      have HIB : Hid (∀ w, Calls Tryd.prog 48 #[.string ⟨#[]⟩, .int .u8 (y.toNat : Int)] w fun e w' => e = .returned (.int .i64 (-1)) ∧ w' = w) := Lib.hid fun w => (Tryd.strings_IndexByte ⟨#[]⟩ (y.toNat : Int) w).mono fun e w' h => by
        obtain ⟨rfl, rfl⟩ := h
        exact ⟨rfl, rfl⟩
      have hix : (ByteArray.mk #[x, y])[1]'(Nat.le_of_ble_eq_true rfl) = y := rfl
      have hix2 : (ByteArray.mk #[13, 10])[1]'(Nat.le_of_ble_eq_true rfl) = (10 : UInt8) := rfl
      have hix3 : ((10 : UInt8).toNat : Int) = 10 := rfl
      clear e2 e4 e1 hs
      go_step3
      go_wp2_with fail
      go_loopg [9, 10, 11, 12] 1 (fun _ x9 _ _ _ wx => x9 = .int .i64 1 ∧ wx = w')
      case atStart => exact ⟨by go_num, rfl⟩
      case round =>
        obtain ⟨rfl, rfl⟩ := hrel
        go_wp2_with fail
        go_step3
        go_wp2_with fail
        go_quiet (fail)
        go_wp2_with fail
        refine wp_region_held_drew (S := (fun _ => True)) (by kernel_rfl) (trivial) (fun hHeld => ?_)
        refine wpAnyH_take (i := 0) (v := .string ⟨#[13, 10]⟩) rfl (by kernel_rfl) (by kernel_rfl) (by kernel_rfl) (fun _ _ _ h => h) (Or.inl ⟨by rfl, fun w hS => by first | (go_simp; done) | (go_simp; with_reducible rfl)⟩) hHeld ?_
        try simp only [Act.put, List.getElem_toArray, List.getElem_cons_zero, List.setIfInBounds_toArray, List.set_cons_zero, List.set_cons_succ]
        refine wpAnyH_take (i := 1) (v := .int .i64 1) rfl (by kernel_rfl) (by kernel_rfl) (by kernel_rfl) (fun _ _ _ h => h) (Or.inl ⟨by rfl, fun w hS => by first | (go_simp; done) | (go_simp; with_reducible rfl)⟩) hHeld ?_
        try simp only [Act.put, List.getElem_toArray, List.getElem_cons_zero, List.getElem_cons_succ, List.setIfInBounds_toArray, List.set_cons_zero, List.set_cons_succ]
        refine wpAnyH_take (i := 2) (v := .int .i64 2) rfl (by kernel_rfl) (by kernel_rfl) (by kernel_rfl) (fun _ _ _ h => h) (Or.inl ⟨by rfl, fun w hS => by go_simp; rfl⟩) hHeld ?_
        try simp only [Act.put, List.getElem_toArray, List.getElem_cons_zero, List.getElem_cons_succ, List.setIfInBounds_toArray, List.set_cons_zero, List.set_cons_succ]
        refine wpAnyH_take (i := 3) (v := .string ⟨#[]⟩) rfl (by kernel_rfl) (by kernel_rfl) (by kernel_rfl) (fun _ _ _ h => h) (Or.inl ⟨by rfl, fun w hS => by go_simp; rfl⟩) hHeld ?_
        try simp only [Act.put, List.getElem_toArray, List.getElem_cons_zero, List.getElem_cons_succ, List.setIfInBounds_toArray, List.set_cons_zero, List.set_cons_succ]
        refine wpAnyH_take (i := 4) (v := .string ⟨#[x, y]⟩) rfl (by kernel_rfl) (by kernel_rfl) (by kernel_rfl) (fun _ _ _ h => h) (Or.inl ⟨by rfl, fun w hS => by first | (go_simp; done) | (go_simp; with_reducible rfl)⟩) hHeld ?_
        try simp only [Act.put, List.getElem_toArray, List.getElem_cons_zero, List.getElem_cons_succ, List.setIfInBounds_toArray, List.set_cons_zero, List.set_cons_succ]
        refine wpAnyH_take (i := 5) (v := .int .i64 1) rfl (by kernel_rfl) (by kernel_rfl) (by kernel_rfl) (fun _ _ _ h => h) (Or.inl ⟨by rfl, fun w hS => by first | (go_simp; done) | (go_simp; with_reducible rfl)⟩) hHeld ?_
        try simp only [Act.put, List.getElem_toArray, List.getElem_cons_zero, List.getElem_cons_succ, List.setIfInBounds_toArray, List.set_cons_zero, List.set_cons_succ]
        refine wpAnyH_take (i := 6) (v := .int .u8 (y.toNat : Int)) rfl (by kernel_rfl) (by kernel_rfl) (by kernel_rfl) (fun _ _ _ h => h) (Or.inl ⟨by rfl, fun w hS => by (first | (go_simp; done) | (go_simp; rfl))⟩) hHeld ?_
        try simp only [Act.put, List.getElem_toArray, List.getElem_cons_zero, List.getElem_cons_succ, List.setIfInBounds_toArray, List.set_cons_zero, List.set_cons_succ]
        refine wpAnyH_ready (rs := [7]) (by kernel_rfl) (by simp) ?_
        refine AllReadyH.cons rfl (fun K hK => ?_) AllReadyH.nil
        go_simp
        go_wp2_with ((refine (HIB.out _).mono ?_; rintro e w' ⟨rfl, rfl⟩))
        refine hK.out _ _ ?_ (fun hHeld => ?_)
        · trivial
        clear hK K
        try simp only [Act.put, List.getElem_toArray, List.getElem_cons_zero, List.getElem_cons_succ, List.setIfInBounds_toArray, List.set_cons_zero, List.set_cons_succ]
        refine wpAnyH_ready (rs := [8]) (by kernel_rfl) (by simp) ?_
        refine AllReadyH.cons rfl (fun K hK => ?_) AllReadyH.nil
        go_simp
        refine hK.out _ _ ?_ (fun hHeld => ?_)
        · trivial
        clear hK K
        try simp only [Act.put, List.getElem_toArray, List.getElem_cons_zero, List.getElem_cons_succ, List.setIfInBounds_toArray, List.set_cons_zero, List.set_cons_succ]
        refine wpAnyH_done (by kernel_rfl) ?_ _
        go_wp2_with fail
        simp only [Exit.inBlock, Exit.then, Exit.noGoto_ret]
        go_ret
        exact ⟨rfl, rfl, rfl, rfl, Nat.le_refl _, fun _ _ => rfl⟩
    · have hs1 : ¬ (e.size : Int) - 1 < 2 := by omega
      have hs2 : (3 : Int) ≤ e.size := by omega
      have hs4 : (e.size : Int) ≤ 4 := by omega
      clear e2 e4 e1
      go_step3
      go_wp2_with fail
      go_loopg [9, 10, 11, 12] 1 (fun _ x9 _ _ _ wx => x9 = .int .i64 (e.size - 1) ∧ wx = w')
      case atStart => exact ⟨by go_num, rfl⟩
      case round =>
        obtain ⟨rfl, rfl⟩ := hrel
        go_wp2_with fail
        rw [Exit.noGoto_ret]
        go_ret
        exact ⟨rfl, Below.refl _ _⟩
end Hd
end Go.Proofs.YtliaciojlcajdaaDoor
