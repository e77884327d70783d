/- The walk of DigestBack. Conditions: as stated. -/
import Derived.Test.YtmckgbjkplkblaaDoorDgEq
namespace Go.Proofs.YtmckgbjkplkblaaDoor
open Go.RowKit Go
theorem load_blk_g {P : Program} {ops : Array Oper} {rest : List Oper} {o : Oper} {a : Act} {w : World} {Q : Exit → Act → World → Prop} (x : Operand) (ty : TypeId) (g : Nat) (t : TypeId) (cs : Array Value) (hg : BlkIs w g t cs)
    (ho : o.op = .load ty x) (hx : a.eval x = .pointer (some ⟨g, 0, none⟩)) (hw : Region.wanted o (yielded ops a.tmps) = true) (d : TypeDesc)
    (hu : P.underlying ty = some d) (hd : (match d with | .struct _ | .array _ _ => true | _ => false) = true) (hi : (P.info? ty).map (·.size) = some cs.size)
    (h : wpList P ops Q rest (a.put o.dst (.agg cs)) w) : wpList P ops Q (o :: rest) a w := by
  refine wpList_step fun K hK => ?_
  rw [if_pos hw]
  exact wp_load_row ty x ho g hx t cs (0, 0) d hg hu hd hi (hK _ _ h)
set_option maxRecDepth 100000 in
set_option maxHeartbeats 800000 in
theorem back_any (h : List UInt8) (w : World) (hh : h.length = 32) (hg : Glob w) :
    Calls Tryd.prog 6 #[.agg (bv h).toArray] w fun e w' => e = .returned (.bool true) ∧ Below w.heap.size w w' := by
  have HI24 : Hid ((Tryd.prog.info? 24).map (·.size) = some (bv h).toArray.size) := Lib.hid (by rw [isz24, List.size_toArray, bv_length, hh])
  have HS24 : Hid ((bv h).toArray.size = 32) := Lib.hid (by rw [List.size_toArray, bv_length, hh])
  have HSH := Lib.hid fun w => show_any h w hh
  have hp := fun w => parse_any (str (hex h)) (hex h) w rfl
  rw [hex_ok h hh, hex_back h hh] at hp
  have HP := Lib.hid hp
  have heq := fun w => run_eq24 h h hh hh w
  rw [show (h == h) = true by simp] at heq
  have HA := Lib.hid (bv_all h)
  clear hp hh
  generalize (bv h).toArray = X at *
  have hb0 := BlkIs.new w 24 X
  have hw0 := (Below.refl w.heap.size w).alloc (Nat.le_refl _) (.cells X 24)
  have HAW := Lib.hid (awake_any _ (hg.alloc (.cells X 24)))
  have HB0 := Lib.hid hb0
  have HW0 := Lib.hid hw0
  clear hb0 hw0
  go_enter Tryd.func6, Tryd.ntmps6
  go_wp2_with (first
    | (go_at_call 7; refine HAW.out.mono ?_; rintro e w2 ⟨rfl, hb2⟩; have HB2 : Hid (BlkIs w2 w.heap.size 24 X) := Lib.hid ((hb2.block _ (by simp)).trans HB0.out); have HW2 := Lib.hid (HW0.out.trans (hb2.mono (by simp))); clear hb2)
    | (with_reducible refine load_blk (.tmp 1) 24 w.heap.size 24 X HB2.out rfl rfl rfl _ Tryd.underlying24 rfl HI24.out ?_)
    | (go_at_call 13; refine (HSH.out _).mono ?_; rintro e w3 ⟨rfl, hb3⟩; have HB3 : Hid (BlkIs w3 w.heap.size 24 X) := Lib.hid ((hb3.block _ HB2.out.lt).trans HB2.out); have HW3 := Lib.hid (HW2.out.trans (hb3.mono HW2.out.size)); clear hb3)
    | (go_at_call 11; refine (HP.out _).mono ?_; rintro e w4 ⟨rfl, hb4⟩; have HB4 : Hid (BlkIs w4 w.heap.size 24 X) := Lib.hid ((hb4.block _ HB3.out.lt).trans HB3.out); have HW4 := Lib.hid (HW3.out.trans (hb4.mono HW3.out.size)); clear hb4)
    | (refine store_bl (.tmp 3) (.tmp 11) 24 w4.heap.size 24 _ X (BlkIs.new_at w4 _ _ _ rfl) rfl rfl rfl rfl rfl HI24.out (by rw [HS24.out]; rfl) HA.out ?_; intro w5 hb5 ht5; have hlt := HB4.out.lt; have HB5 : Hid (BlkIs w5 w.heap.size 24 X) := Lib.hid ((HB4.out.alloc _).tn ht5 (by omega)); have HW5 : Hid (Below w.heap.size w w5) := Lib.hid ((HW4.out.alloc HW4.out.size _).trans (ht5.below (by simp; omega) (fun i hi h => by omega))))
    | (refine load_blk_g (.tmp 3) 24 w4.heap.size 24 X hb5 rfl rfl (by rfl) _ Tryd.underlying24 rfl HI24.out ?_)
    | (refine load_blk_g (.tmp 1) 24 w.heap.size 24 X HB5.out rfl rfl (by rfl) _ Tryd.underlying24 rfl HI24.out ?_)
    | fail)
  go_ret
  exact ⟨rfl, HW5.out⟩
end Go.Proofs.YtmckgbjkplkblaaDoor
