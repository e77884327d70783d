/- The statement on what is decoded. Conditions: as stated at each. -/
import Derived.Test.YtpfonpjcnpfipaaGreatDoorEnRDec
import Derived.Test.YtpfonpjcnpfipaaGreatDoorEnSame
import Derived.Test.YtpfonpjcnpfipaaGreatDoorEnAwake
namespace Go.Proofs.YtpfonpjcnpfipaaGreatDoor
set_option maxRecDepth 100000
namespace En
open Go.RowKit Go Go.Proofs.YtpfonpjcnpfipaaGreatDoor.Pa
attribute [local go_sem] Oper.semAt_some
theorem msg_zero (w : World) (B : Nat) : MsgAt w B (.agg #[.int .i64 0, .string ⟨#[]⟩, .string ⟨#[]⟩, .slice none 0 0, .int .i64 0, .slice none 0 0]) ⟨0, [], [], [], 0, []⟩ :=
  ⟨none, 0, none, 0, rfl, Cs.nil, Nat.le_refl _, by unfold maxLen; omega, Cs.nil, Nat.le_refl _, by unfold maxLen; omega, trivial⟩
set_option maxHeartbeats 3200000 in
theorem ldecodes_any {w0 : World} {A : Option Addr} {b : L} {c : Nat} (hb : Bts w0 w0.heap.size A b) (hc : b.length ≤ c) (hm : c ≤ maxLen) (hA : A = none → c = 0) (hG : GlT w0) (hE : GlE w0) :
    Calls Tryz.prog 3 #[.slice A b.length c] w0 fun e w' => e = .returned (.bool true) ∧ Below w0.heap.size w0 w' := by
  have HDE := Lib.hid (fun X (hX : Below w0.heap.size w0 X) (hl : b.length ≤ 10000) => decode_any (w := X) ((hb.below hX).more hX.size) hc hm hA hl (hG.below hX hG.lt) (hE.below hX hE.lt))
  have HRD := Lib.hid (fun X (hX : Below w0.heap.size w0 X) (hl : b.length ≤ 10000) => rdecode_any (w0 := X) ((hb.below hX).more hX.size) hc hm hA hl (hG.below hX hG.lt))
  have HA1 := Lib.hid (awake_any w0 hG)
  clear hb hG hE
  unfold DecodeP at HDE
  unfold RDecP at HRD
  generalize b.length = bn at *
  go_enter Tryz.func3, Tryz.ntmps3
  go_wp2_with fail
  refine HA1.out.mono ?_
  rintro e w2 ⟨rfl, hb2⟩
  have HB2 := Lib.hid hb2
  clear hb2 HA1
  by_cases h3 : (3000 : Int) < bn
  · go_wp2_with fail
    go_ret
    exact ⟨rfl, HB2.out⟩
  have HD := Lib.hid (HDE.out w2 HB2.out (by omega))
  clear HDE
  go_wp2_with fail
  refine HD.out.mono ?_
  rintro e w8 ⟨hb8, ⟨hd8, rfl⟩ | ⟨m, x8, hd8, rfl, hm8⟩⟩
  · have HB8 := Lib.hid (HB2.out.trans (hb8.mono HB2.out.size))
    have HBA : Hid (Below w8.heap.size w8 (w8.alloc (.cells #[.int .i64 0, .string ⟨#[]⟩, .string ⟨#[]⟩, .slice none 0 0, .int .i64 0, .slice none 0 0] 28))) := Lib.hid ((Below.refl _ _).alloc (Nat.le_refl _) _)
    have HB9 := Lib.hid (HB8.out.trans (HBA.out.mono HB8.out.size))
    have HQN := Lib.hid (BlkIs.new w8 28 #[.int .i64 0, .string ⟨#[]⟩, .string ⟨#[]⟩, .slice none 0 0, .int .i64 0, .slice none 0 0])
    have HR := Lib.hid (HRD.out _ HB9.out (by omega))
    have HD8 := Lib.hid hd8
    clear hb8 HD HRD hd8
    go_wp2_with fail
    refine HR.out.mono ?_
    rintro e w10 ⟨hb10, ⟨_, rfl⟩ | ⟨m', x', hd', _⟩⟩
    · have HQ10 : Hid (BlkIs w10 w8.heap.size 28 #[.int .i64 0, .string ⟨#[]⟩, .string ⟨#[]⟩, .slice none 0 0, .int .i64 0, .slice none 0 0]) := Lib.hid ((hb10.block _ HQN.out.lt).trans HQN.out)
      have HB10 := Lib.hid (HB9.out.trans (hb10.mono HB9.out.size))
      have HB11 := Lib.hid (HB10.out.alloc HB10.out.size (.cells #[.int .i64 0, .string ⟨#[]⟩, .string ⟨#[]⟩, .slice none 0 0, .int .i64 0, .slice none 0 0] 28))
      have HQ11 := Lib.hid (HQ10.out.alloc (.cells #[.int .i64 0, .string ⟨#[]⟩, .string ⟨#[]⟩, .slice none 0 0, .int .i64 0, .slice none 0 0] 28))
      have HQN2 := Lib.hid (BlkIs.new w10 28 #[.int .i64 0, .string ⟨#[]⟩, .string ⟨#[]⟩, .slice none 0 0, .int .i64 0, .slice none 0 0])
      have k11 : Below w10.heap.size w10 (w10.alloc (.cells #[.int .i64 0, .string ⟨#[]⟩, .string ⟨#[]⟩, .slice none 0 0, .int .i64 0, .slice none 0 0] 28)) := (Below.refl _ _).alloc (Nat.le_refl _) _
      have HSAM := Lib.hid (Same_any (w := w10.alloc (.cells #[.int .i64 0, .string ⟨#[]⟩, .string ⟨#[]⟩, .slice none 0 0, .int .i64 0, .slice none 0 0] 28)) (m := ⟨0, [], [], [], 0, []⟩) (msg_zero _ _) (msg_zero _ _))
      have y0 := (BlkIs.cell HQ11.out 0).trans (rfl : _ = some (Value.int .i64 0))
      have y1 := (BlkIs.cell HQ11.out 1).trans (rfl : _ = some (Value.string ⟨#[]⟩))
      have y2 := (BlkIs.cell HQ11.out 2).trans (rfl : _ = some (Value.string ⟨#[]⟩))
      have y3 := (BlkIs.cell HQ11.out 3).trans (rfl : _ = some (Value.slice none 0 0))
      have y4 := (BlkIs.cell HQ11.out 4).trans (rfl : _ = some (Value.int .i64 0))
      have y5 := (BlkIs.cell HQ11.out 5).trans (rfl : _ = some (Value.slice none 0 0))
      have x0 := (BlkIs.cell HQN2.out 0).trans (rfl : _ = some (Value.int .i64 0))
      have x1 := (BlkIs.cell HQN2.out 1).trans (rfl : _ = some (Value.string ⟨#[]⟩))
      have x2 := (BlkIs.cell HQN2.out 2).trans (rfl : _ = some (Value.string ⟨#[]⟩))
      have x3 := (BlkIs.cell HQN2.out 3).trans (rfl : _ = some (Value.slice none 0 0))
      have x4 := (BlkIs.cell HQN2.out 4).trans (rfl : _ = some (Value.int .i64 0))
      have x5 := (BlkIs.cell HQN2.out 5).trans (rfl : _ = some (Value.slice none 0 0))
      clear k11 hb10 HR HD8
      go_wp2_with (first
        | (go_at_call 7; refine HSAM.out.mono ?_; rintro e w12 ⟨rfl, hb12⟩; have HB12 := Lib.hid (HB11.out.trans (hb12.mono HB11.out.size)); clear hb12)
        | fail)
      go_ret
      exact ⟨by first | rfl | simp, HB12.out⟩
    · rw [HD8.out] at hd'; cases hd'
  · have HM8 := Lib.hid (MsgO.at_ hm8)
    obtain ⟨v1, v2, rfl, g1, g2⟩ := hm8
    obtain ⟨C1, k1, rfl, _, _⟩ := OwnT.slice g1
    obtain ⟨C2, k2, rfl, _, _⟩ := own_slice g2
    clear g1 g2
    generalize hid : m.id = id at *
    generalize hsc : str m.cls = sc at *
    generalize hsf : str m.fr = sf at *
    generalize hn : m.tos.length = tn at *
    generalize ht : m.at_ = t at *
    generalize hbl : m.body.length = bl at *
    have HEQ := Lib.hid (And.intro hid (And.intro hsc (And.intro hsf (And.intro hn (And.intro ht hbl)))))
    clear hid hsc hsf hn ht hbl
    have HB8 := Lib.hid (HB2.out.trans (hb8.mono HB2.out.size))
    have HBA : Hid (Below w8.heap.size w8 (w8.alloc (.cells #[.int .i64 id, .string sc, .string sf, .slice C1 tn k1, .int .i64 t, .slice C2 bl k2] 28))) := Lib.hid ((Below.refl _ _).alloc (Nat.le_refl _) _)
    have HB9 := Lib.hid (HB8.out.trans (HBA.out.mono HB8.out.size))
    have HQN := Lib.hid (BlkIs.new w8 28 #[.int .i64 id, .string sc, .string sf, .slice C1 tn k1, .int .i64 t, .slice C2 bl k2])
    have HR := Lib.hid (HRD.out _ HB9.out (by omega))
    have HD8 := Lib.hid hd8
    clear hb8 HD HRD hd8
    go_wp2_with fail
    refine HR.out.mono ?_
    rintro e w10 ⟨hb10, ⟨hn', _⟩ | ⟨m', x', hd', rfl, hm'⟩⟩
    · rw [HD8.out] at hn'; cases hn'
    · rw [HD8.out] at hd'
      injection hd' with hd'
      subst hd'
      have HM10 := Lib.hid hm'
      obtain ⟨E1, j1, E2, j2, rfl, _⟩ := hm'
      rw [HEQ.out.1, HEQ.out.2.1, HEQ.out.2.2.1, HEQ.out.2.2.2.1, HEQ.out.2.2.2.2.1, HEQ.out.2.2.2.2.2] at HM10
      rw [HEQ.out.1, HEQ.out.2.1, HEQ.out.2.2.1, HEQ.out.2.2.2.1, HEQ.out.2.2.2.2.1, HEQ.out.2.2.2.2.2]
      have k10 : Below w8.heap.size w8 w10 := HBA.out.trans (hb10.mono HBA.out.size)
      have HQ10 : Hid (BlkIs w10 w8.heap.size 28 #[.int .i64 id, .string sc, .string sf, .slice C1 tn k1, .int .i64 t, .slice C2 bl k2]) := Lib.hid ((hb10.block _ HQN.out.lt).trans HQN.out)
      have HB10 := Lib.hid (HB9.out.trans (hb10.mono HB9.out.size))
      have HB11 := Lib.hid (HB10.out.alloc HB10.out.size (.cells #[.int .i64 id, .string sc, .string sf, .slice E1 tn j1, .int .i64 t, .slice E2 bl j2] 28))
      have HQ11 := Lib.hid (HQ10.out.alloc (.cells #[.int .i64 id, .string sc, .string sf, .slice E1 tn j1, .int .i64 t, .slice E2 bl j2] 28))
      have HQN2 := Lib.hid (BlkIs.new w10 28 #[.int .i64 id, .string sc, .string sf, .slice E1 tn j1, .int .i64 t, .slice E2 bl j2])
      have k11 : Below w10.heap.size w10 (w10.alloc (.cells #[.int .i64 id, .string sc, .string sf, .slice E1 tn j1, .int .i64 t, .slice E2 bl j2] 28)) := (Below.refl _ _).alloc (Nat.le_refl _) _
      have HSAM := Lib.hid (Same_any (w := w10.alloc (.cells #[.int .i64 id, .string sc, .string sf, .slice E1 tn j1, .int .i64 t, .slice E2 bl j2] 28)) (m := m) ((HM8.out.below (k10.trans (k11.mono k10.size))).more (k10.trans (k11.mono k10.size)).size) ((HM10.out.below k11).more k11.size))
      have y0 := (BlkIs.cell HQ11.out 0).trans (rfl : _ = some (Value.int .i64 id))
      have y1 := (BlkIs.cell HQ11.out 1).trans (rfl : _ = some (Value.string sc))
      have y2 := (BlkIs.cell HQ11.out 2).trans (rfl : _ = some (Value.string sf))
      have y3 := (BlkIs.cell HQ11.out 3).trans (rfl : _ = some (Value.slice C1 tn k1))
      have y4 := (BlkIs.cell HQ11.out 4).trans (rfl : _ = some (Value.int .i64 t))
      have y5 := (BlkIs.cell HQ11.out 5).trans (rfl : _ = some (Value.slice C2 bl k2))
      have x0 := (BlkIs.cell HQN2.out 0).trans (rfl : _ = some (Value.int .i64 id))
      have x1 := (BlkIs.cell HQN2.out 1).trans (rfl : _ = some (Value.string sc))
      have x2 := (BlkIs.cell HQN2.out 2).trans (rfl : _ = some (Value.string sf))
      have x3 := (BlkIs.cell HQN2.out 3).trans (rfl : _ = some (Value.slice E1 tn j1))
      have x4 := (BlkIs.cell HQN2.out 4).trans (rfl : _ = some (Value.int .i64 t))
      have x5 := (BlkIs.cell HQN2.out 5).trans (rfl : _ = some (Value.slice E2 bl j2))
      clear k11 hb10 HR k10 HM8 HM10 HD8
      go_wp2_with (first
        | (go_at_call 7; refine HSAM.out.mono ?_; rintro e w12 ⟨rfl, hb12⟩; have HB12 := Lib.hid (HB11.out.trans (hb12.mono HB11.out.size)); clear hb12)
        | fail)
      go_ret
      exact ⟨by first | rfl | simp, HB12.out⟩
end En
end Go.Proofs.YtpfonpjcnpfipaaGreatDoor
