/- Fields compared; the law's awake, same, few. Conditions: as stated at each. -/
import Derived.Test.YtliaciojlcajdaaDoorHdParse
import Derived.Laws.StructEq
namespace Go.Proofs.YtliaciojlcajdaaDoor
set_option maxRecDepth 100000
namespace Hd
open Go.RowKit Go Go.Proofs.YtliaciojlcajdaaDoor.Pa
theorem fields47 : (Tryd.prog.fieldsOf 47).toList = [⟨"Name", 9, 0, false, "", "", 0⟩, ⟨"Body", 9, 1, false, "", "", 16⟩] := by kernel_rfl
theorem eqFields_step {P : Program} {w : World} {d : Nat} {xs ys : Array Value} {n : String} {t : TypeId} {o : Nat} {em : Bool} {tg pk : String} {bo : Nat} {fs : List Field} {a b : Value} {r : Bool} (hn : n ≠ "_") (ha : (part t xs o).run P w = .ok a w) (hb : (part t ys o).run P w = .ok b w)
    (hr : (Op.equalIn d t a b).run P w = .ok r w) : (Op.eqFields d xs ys (⟨n, t, o, em, tg, pk, bo⟩ :: fs)).run P w = if r then (Op.eqFields d xs ys fs).run P w else .ok false w := by
  simp only [Op.eqFields, if_pos hn, Sem.run_bind, ha, hb, hr, Result.andThen_ok]
  cases r
  · rfl
  · rfl
theorem part_str (cs : Array Value) (o : Nat) (v : Value) (w : World) (h : cs[o]? = some v) : (part 9 cs o).run Tryd.prog w = .ok v w := by
  simp [part, isAgg, run_underlying Tryd.underlying9, Sem.run_bind, h]
theorem run_eq47 (a b c d : ByteArray) (w : World) : (Op.equalIn 10000 47 (.agg #[.string a, .string b]) (.agg #[.string c, .string d])).run Tryd.prog w = .ok (a.toList == c.toList && b.toList == d.toList) w := by
  rw [show (10000 : Nat) = 9999 + 1 from rfl, run_equalIn_struct w 9999 47 _ _ (by kernel_rfl) (by kernel_rfl), fields47]
  have q : ∀ x y : ByteArray, (Op.equalIn 9999 9 (.string x) (.string y)).run Tryd.prog w = .ok (x.toList == y.toList) w := fun x y => by
    rw [show (9999 : Nat) = 9998 + 1 from rfl]
    exact run_equalIn_string (P := Tryd.prog) w 9998 9 x y Tryd.underlying9
  rw [eqFields_step (by decide) (part_str _ 0 (.string a) w rfl) (part_str _ 0 (.string c) w rfl) (q a c), eqFields_step (by decide) (part_str _ 1 (.string b) w rfl) (part_str _ 1 (.string d) w rfl) (q b d)]
  generalize (a.toList == c.toList) = b0
  generalize (b.toList == d.toList) = b1
  cases b0
  · rfl
  · cases b1
    · rfl
    · rfl
def wakeL : List UInt8 := [65, 58, 32, 120, 13, 10, 32, 121, 13, 10, 13, 10, 122]
theorem wake_run : Run [] wakeL (some ([([65], [32, 120, 32, 121])], [122])) := ⟨3, by decide⟩
theorem wake_trim : [(([65], [32, 120, 32, 121]) : F)].map trimF = [([65], [120, 32, 121])] := by decide
set_option maxHeartbeats 1600000 in
theorem awake8 (w : World) (hG : Gl w) : Calls Tryd.prog 8 #[] w fun e w' => e = .returned (.bool true) ∧ Below w.heap.size w w' := by
  have hcv := conv_const
  have h0 := hG.lt
  have kB : Below w.heap.size w (w.alloc (.cells #[.int .u8 65, .int .u8 58, .int .u8 32, .int .u8 120, .int .u8 13, .int .u8 10, .int .u8 32, .int .u8 121, .int .u8 13, .int .u8 10, .int .u8 13, .int .u8 10, .int .u8 122] 5 (13, 14))) := (Below.refl _ w).alloc (Nat.le_refl _) _
  have kT : Bts (w.alloc (.cells #[.int .u8 65, .int .u8 58, .int .u8 32, .int .u8 120, .int .u8 13, .int .u8 10, .int .u8 32, .int .u8 121, .int .u8 13, .int .u8 10, .int .u8 13, .int .u8 10, .int .u8 122] 5 (13, 14))) (w.heap.size + 1) (some ⟨w.heap.size, 0, none⟩) wakeL := Bts.newm w wakeL _ _ rfl
  have HP : Hid (Calls Tryd.prog 9 #[.slice (some ⟨w.heap.size, 0, none⟩) 13 13] (w.alloc (.cells #[.int .u8 65, .int .u8 58, .int .u8 32, .int .u8 120, .int .u8 13, .int .u8 10, .int .u8 32, .int .u8 121, .int .u8 13, .int .u8 10, .int .u8 13, .int .u8 10, .int .u8 122] 5 (13, 14))) (ParseP (w.alloc (.cells #[.int .u8 65, .int .u8 58, .int .u8 32, .int .u8 120, .int .u8 13, .int .u8 10, .int .u8 32, .int .u8 121, .int .u8 13, .int .u8 10, .int .u8 13, .int .u8 10, .int .u8 122] 5 (13, 14))) 13 (some ([([65], [32, 120, 32, 121])], [122])))) :=
    Lib.hid (parse_any (b := wakeL) (kT.more (by simp)) 13 (by decide) (by decide) (fun e => by cases e) (by decide) (hG.below kB h0) _ wake_run (fun gs r e => by
      injection e with e
      injection e with e1 e2
      subst e1
      subst e2
      decide) (fun gs r e f hf => by
      injection e with e
      injection e with e1 e2
      subst e1
      rw [List.mem_singleton] at hf
      subst hf
      decide))
  have HK := Lib.hid kB
  have heq := fun (a b c d : ByteArray) w => run_eq47 a b c d w
  clear kT kB hG
  go_enter Tryd.func8, Tryd.ntmps8
  go_wp2_with fail
  refine HP.out.mono ?_
  rintro e w2 (⟨fs, r, k, v, h1, h2, rfl, h3, h4⟩ | ⟨h1, _⟩)
  · injection h1 with h1
    injection h1 with e1 e2
    subst e1
    subst e2
    obtain rfl : k = 12 := by simp at h2; omega
    rw [wake_trim] at h3
    obtain ⟨A, c, rfl, hc, hm⟩ := own_slice2 h3
    obtain ⟨g, rfl, _, hg, hr, _⟩ := own_range h3 (by simp [fv, pc])
    have c0 := hr 0 (.string (str [65])) rfl
    have c1 := hr 1 (.string (str [120, 32, 121])) rfl
    have HF := Lib.hid (HK.out.trans (h4.mono (by simp)))
    rw [show (fv [(([65], [120, 32, 121]) : F)]).length = 1 from rfl]
    clear h2 h3 h4 hr HP
    go_wp2_with fail
    go_ret
    exact ⟨ret_bool (by simp [Go.Lib.toList_data, str_data]), HF.out⟩
  · cases h1
theorem fv_at {fs : List F} {k : Nat} (h : k < fs.length) : (fv fs)[k]? = some (.string (str (fs.getD k ([], [])).1), .string (str (fs.getD k ([], [])).2)) := by
  simp [fv, List.getD, h]
set_option maxHeartbeats 1600000 in
theorem same_yes {w : World} {A A' : Option Addr} {fs : List F} (h : Prs w w.heap.size A (fv fs)) (h' : Prs w w.heap.size A' (fv fs)) (n c c' : Nat) (hn : fs.length = n) (hl : n ≤ 1000000) :
    Calls Tryd.prog 11 #[.slice A n c, .slice A' n c'] w fun e w' => e = .returned (.bool true) ∧ ∃ m, w' = w.drewN m := by
  have HEL : Hid (∀ k, k < n → ∃ (g o g' o' : Nat) (nm bd : List UInt8), A = some ⟨g, o, none⟩ ∧ A' = some ⟨g', o', none⟩ ∧ ∀ X, Below w.heap.size w X → X.cell? ⟨g, o + k * 2, none⟩ = some (.string (str nm)) ∧ X.cell? ⟨g, o + k * 2 + 1, none⟩ = some (.string (str bd)) ∧ X.cell? ⟨g', o' + k * 2, none⟩ = some (.string (str nm)) ∧ X.cell? ⟨g', o' + k * 2 + 1, none⟩ = some (.string (str bd))) := Lib.hid fun k hk => by
    rw [← hn] at hk
    obtain ⟨g, o, e1, e2, e3, e4⟩ := h.at_ (fv_at hk)
    obtain ⟨g', o', f1, f2, f3, f4⟩ := h'.at_ (fv_at hk)
    refine ⟨g, o, g', o', (fs.getD k ([], [])).1, (fs.getD k ([], [])).2, e1, f1, fun X hb => ⟨(hb.cell (p := ⟨g, _, none⟩) e2).trans e3, ?_, (hb.cell (p := ⟨g', _, none⟩) f2).trans f3, ?_⟩⟩
    · rw [Nat.add_assoc]; exact (hb.cell (p := ⟨g, _, none⟩) e2).trans e4
    · rw [Nat.add_assoc]; exact (hb.cell (p := ⟨g', _, none⟩) f2).trans f4
  clear h h' hn
  have hnn : ((n : Int) != (n : Int)) = false := by simp
  go_enter Tryd.func11, Tryd.ntmps11
  go_wp2_with fail
  go_loopw [5, 13] (fun _ i wr => ∃ k : Nat, k ≤ n ∧ i = .int .i64 k ∧ Hid (∃ m, wr = w.drewN m)) (fun _ i _ => n - (intOf i).toNat)
  case atStart => exact ⟨0, Nat.zero_le _, rfl, Lib.hid ⟨0, rfl⟩⟩
  case round =>
    obtain ⟨k, hk, rfl, HW⟩ := hrel
    by_cases hlt : k < n
    · obtain ⟨g, o, g', o', nm, bd, rfl, rfl, hall⟩ := HEL.out k hlt
      have hwr : Below w.heap.size w wr := by obtain ⟨m, hm⟩ := HW.out; rw [hm]; exact below_drewN' _ _ _
      have hd1 := fun m => (hall _ (hwr.trans (below_drewN' wr _ m))).1
      have hd2 := fun m => (hall _ (hwr.trans (below_drewN' wr _ m))).2.1
      have hd3 := fun m => (hall _ (hwr.trans (below_drewN' wr _ m))).2.2.1
      have hd4 := fun m => (hall _ (hwr.trans (below_drewN' wr _ m))).2.2.2
      have heq := fun w => run_eq47 (str nm) (str bd) (str nm) (str bd) w
      rw [show ((str nm).toList == (str nm).toList && (str bd).toList == (str bd).toList) = true by simp] at heq
      have hc1 := (hall _ hwr).1
      have hc2 := (hall _ hwr).2.1
      have hc3 := (hall _ hwr).2.2.1
      have hc4 := (hall _ hwr).2.2.2
      clear hall hwr
      go_wp2_with fail
      go_quiet (fail)
      go_wp2_with fail
      go_roundw
      case rel => exact ⟨k + 1, by omega, by go_num, drewH HW _⟩
      case measure => simp [intOf]; omega
    · go_wp2_with fail
      go_ret
      exact ⟨rfl, HW.out⟩
end Hd
end Go.Proofs.YtliaciojlcajdaaDoor
