/- The document's Same, Place, Lift. Conditions: as stated at each. -/
import Derived.Test.YtamjellnmlgbeaaHoRHold
import Derived.Test.YtamjellnmlgbeaaHoLift
import Derived.Laws.StructEq
namespace Go.Proofs.Ytamjellnmlgbeaa
set_option maxRecDepth 100000
namespace Ho
open Go.RowKit Go Go.Proofs.Ytamjellnmlgbeaa.Pa Go.Proofs.Ytamjellnmlgbeaa.Rt
theorem fieldsH : (Try.prog.fieldsOf 24).toList = [⟨"Name", 9, 0, false, "", "", 0⟩, ⟨"Who", 9, 1, false, "", "", 16⟩] := by kernel_rfl
theorem eqFields_step {P : Program} {w : World} {d : Nat} {xs ys : Array Value} {n : String} {t : TypeId} {o : Nat} {em : Bool} {tg pk : String} {bo : Nat} {fs : List Field} {a b : Value} {r : Bool} (hn : n ≠ "_") (ha : (part t xs o).run P w = .ok a w) (hb : (part t ys o).run P w = .ok b w)
    (hr : (Op.equalIn d t a b).run P w = .ok r w) : (Op.eqFields d xs ys (⟨n, t, o, em, tg, pk, bo⟩ :: fs)).run P w = if r then (Op.eqFields d xs ys fs).run P w else .ok false w := by
  simp only [Op.eqFields, if_pos hn, Sem.run_bind, ha, hb, hr, Result.andThen_ok]
  cases r
  · rfl
  · rfl
theorem part_str (cs : Array Value) (o : Nat) (v : Value) (w : World) (h : cs[o]? = some v) : (part 9 cs o).run Try.prog w = .ok v w := by
  simp [part, isAgg, run_underlying Try.underlying9, Sem.run_bind, h]
theorem run_eqH (a b c d : ByteArray) (w : World) : (Op.equalIn 10000 24 (.agg #[.string a, .string b]) (.agg #[.string c, .string d])).run Try.prog w = .ok (a.toList == c.toList && b.toList == d.toList) w := by
  rw [show (10000 : Nat) = 9999 + 1 from rfl, run_equalIn_struct w 9999 24 _ _ (by kernel_rfl) (by kernel_rfl), fieldsH]
  have q : ∀ x y : ByteArray, (Op.equalIn 9999 9 (.string x) (.string y)).run Try.prog w = .ok (x.toList == y.toList) w := fun x y => by
    rw [show (9999 : Nat) = 9998 + 1 from rfl]
    exact run_equalIn_string (P := Try.prog) w 9998 9 x y Try.underlying9
  rw [eqFields_step (by decide) (part_str _ 0 (.string a) w rfl) (part_str _ 0 (.string c) w rfl) (q a c), eqFields_step (by decide) (part_str _ 1 (.string b) w rfl) (part_str _ 1 (.string d) w rfl) (q b d)]
  generalize (a.toList == c.toList) = b0
  generalize (b.toList == d.toList) = b1
  cases b0
  · rfl
  · cases b1
    · rfl
    · rfl
theorem below_dn (w : World) (N n : Nat) : Below N w (w.drewN n) := ⟨rfl, rfl, rfl, Nat.le_refl _, fun _ _ => rfl⟩
set_option maxHeartbeats 1600000 in
/-- alike lists are the same. -/
theorem same_yes {w : World} {B : Nat} {A A' : Option Addr} {l : List R} (h : Prs w B A (cvR l)) (h' : Prs w B A' (cvR l)) (hB : B ≤ w.heap.size) (n c c' : Nat) (hn : l.length = n) (hl : n ≤ 1000000) :
    Calls Try.prog 11 #[.slice A n c, .slice A' n c'] w fun e w' => e = .returned (.bool true) ∧ Below w.heap.size w w' := by
  have HEL : Hid (∀ k, k < n → ∃ (g o g' o' : Nat) (nm bd : List UInt8), A = some ⟨g, o, none⟩ ∧ A' = some ⟨g', o', none⟩ ∧ ∀ X, Below w.heap.size w X → X.cell? ⟨g, o + k * 2, none⟩ = some (.string (str nm)) ∧ X.cell? ⟨g, o + k * 2 + 1, none⟩ = some (.string (str bd)) ∧ X.cell? ⟨g', o' + k * 2, none⟩ = some (.string (str nm)) ∧ X.cell? ⟨g', o' + k * 2 + 1, none⟩ = some (.string (str bd))) := Lib.hid fun k hk => by
    rw [← hn] at hk
    obtain ⟨g, o, e1, _, e3⟩ := holds_of h k hk
    obtain ⟨g', o', f1, _, f3⟩ := holds_of h' k hk
    exact ⟨g, o, g', o', (l.getD k r0).1, (l.getD k r0).2, e1, f1, fun X hb => ⟨(e3 X (hb.mono hB)).1, (e3 X (hb.mono hB)).2, (f3 X (hb.mono hB)).1, (f3 X (hb.mono hB)).2⟩⟩
  clear h h' hn
  have hnn : ((n : Int) != (n : Int)) = false := by simp
  go_enter Try.func11, Try.ntmps11
  go_wp2_with fail
  go_loopw [5, 13] (fun _ i wr => ∃ k : Nat, k ≤ n ∧ i = .int .i64 k ∧ Hid (∃ m, wr = w.drewN m)) (fun _ i _ => n - (intOf i).toNat)
  case atStart => exact ⟨0, Nat.zero_le _, rfl, Lib.hid ⟨0, rfl⟩⟩
  case round =>
    obtain ⟨k, hk, rfl, HW⟩ := hrel
    by_cases hlt : k < n
    · obtain ⟨g, o, g', o', nm, bd, rfl, rfl, hall⟩ := HEL.out k hlt
      have hwr : Below w.heap.size w wr := by obtain ⟨m, hm⟩ := HW.out; rw [hm]; exact below_dn _ _ _
      have hd1 := fun m => (hall _ (hwr.trans (below_dn wr _ m))).1
      have hd2 := fun m => (hall _ (hwr.trans (below_dn wr _ m))).2.1
      have hd3 := fun m => (hall _ (hwr.trans (below_dn wr _ m))).2.2.1
      have hd4 := fun m => (hall _ (hwr.trans (below_dn wr _ m))).2.2.2
      have heq := fun w => run_eqH (str nm) (str bd) (str nm) (str bd) w
      rw [show ((str nm).toList == (str nm).toList && (str bd).toList == (str bd).toList) = true by simp] at heq
      have hc1 := (hall _ hwr).1
      have hc2 := (hall _ hwr).2.1
      have hc3 := (hall _ hwr).2.2.1
      have hc4 := (hall _ hwr).2.2.2
      clear hall hwr
      go_wp2_with fail
      go_quiet (fail)
      go_wp2_with fail
      go_roundw
      case rel => exact ⟨k + 1, by omega, by go_num, by obtain ⟨m, rfl⟩ := HW.out; exact Lib.hid ⟨_, by first | rfl | (simp [World.drewN]; done) | (simp only [World.drewN]; congr 1; exact Nat.add_assoc _ _ _)⟩⟩
      case measure => simp [intOf]; omega
    · go_wp2_with fail
      go_ret
      exact ⟨rfl, by obtain ⟨m, rfl⟩ := HW.out; exact below_dn _ _ _⟩
end Ho
end Go.Proofs.Ytamjellnmlgbeaa
