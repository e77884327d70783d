/- ShelfE SlNumP SlFilesP. Conditions: as stated at each. -/
import Derived.Shelf.LaysC
import Derived.Shelf.Strconv.AtoiAll
import Derived.Test.YtidadjlhnlmfkaaGreatDoorProg
import Derived.Test.YtidadjlhnlmfkaaGreatDoorKt16
import Derived.Test.YtidadjlhnlmfkaaGreatDoorKt23
/-
  DERIVED: THE SHELF's CONTRACTS AT THIS DUMP, IN PLAIN WORDS (tools/lay-plain.mjs out of 'TryzShelfE.lean', which tools/lay-shelf.mjs wrote): THE SAME DECLARATIONS UNDER THE SAME NAMES: 'import', 'namespace', 'open', 'def', 'theorem' AND NOTHING ELSE: no command of the shelf's: FOR A HAND-IN. Each laying: the table of numbers ('.._ren') and one theorem, a field a fact of the dump's own or the kernel's comparison; each contract: ONE APPLICATION.
-/
namespace Go.Proofs
open Go.Shelf
def Tryz.laysC172_ren : Go.Shelf.Ren := ⟨fun | 172 => 95 | 244 => 103 | 245 => 104 | 247 => 127 | 279 => 128 | 280 => 129 | 281 => 130 | 282 => 131 | 287 => 142 | 316 => 143 | 171 => 145 | 205 => 144 | 321 => 148 | 322 => 149 | 243 => 150 | 246 => 151 | 283 => 152 | 284 => 153 | 285 => 154 | 286 => 155 | 129 => 115 | 317 => 156 | 318 => 157 | 319 => 158 | 320 => 159 | 337 => 160 | 338 => 161 | n => n, fun | 9 => 9 | 3 => 3 | 75 => 122 | 76 => 123 | 4 => 4 | 5 => 5 | 167 => 148 | 37 => 26 | 0 => 0 | 85 => 149 | 2 => 2 | 168 => 151 | 53 => 141 | 175 => 162 | 46 => 118 | 210 => 166 | 127 => 173 | 145 => 176 | 143 => 174 | 21 => 21 | 171 => 178 | 173 => 180 | 212 => 184 | 51 => 106 | 20 => 20 | 213 => 185 | 232 => 186 | 233 => 187 | 80 => 188 | n => n, fun | 15 => 0 | 16 => 1 | 17 => 2 | 18 => 3 | 19 => 4 | n => n⟩
theorem Tryz.laysC172 : Go.Proofs.LaysC.n172 Tryz.prog Tryz.laysC172_ren := {
  mixed := by kernel_rfl
  f129 := Tryz.func115.trans (congrArg some (by kernel_rfl))
  f171 := Tryz.func145.trans (congrArg some (by kernel_rfl))
  f172 := Tryz.func95.trans (congrArg some (by kernel_rfl))
  f205 := Tryz.func144.trans (congrArg some (by kernel_rfl))
  f243 := Tryz.func150.trans (congrArg some (by kernel_rfl))
  f244 := Tryz.func103.trans (congrArg some (by kernel_rfl))
  f245 := Tryz.func104.trans (congrArg some (by kernel_rfl))
  f246 := Tryz.func151.trans (congrArg some (by kernel_rfl))
  f247 := Tryz.func127.trans (congrArg some (by kernel_rfl))
  f279 := Tryz.func128.trans (congrArg some (by kernel_rfl))
  f280 := Tryz.func129.trans (congrArg some (by kernel_rfl))
  f281 := Tryz.func130.trans (congrArg some (by kernel_rfl))
  f282 := Tryz.func131.trans (congrArg some (by kernel_rfl))
  f283 := Tryz.func152.trans (congrArg some (by kernel_rfl))
  f284 := Tryz.func153.trans (congrArg some (by kernel_rfl))
  f285 := Tryz.func154.trans (congrArg some (by kernel_rfl))
  f286 := Tryz.func155.trans (congrArg some (by kernel_rfl))
  f287 := Tryz.func142.trans (congrArg some (by kernel_rfl))
  f316 := Tryz.func143.trans (congrArg some (by kernel_rfl))
  f317 := Tryz.func156.trans (congrArg some (by kernel_rfl))
  f318 := Tryz.func157.trans (congrArg some (by kernel_rfl))
  f319 := Tryz.func158.trans (congrArg some (by kernel_rfl))
  f320 := Tryz.func159.trans (congrArg some (by kernel_rfl))
  f321 := Tryz.func148.trans (congrArg some (by kernel_rfl))
  f322 := Tryz.func149.trans (congrArg some (by kernel_rfl))
  f337 := Tryz.func160.trans (congrArg some (by kernel_rfl))
  f338 := Tryz.func161.trans (congrArg some (by kernel_rfl))
  t0 := Tryz.underlying0
  a0 := Tryz.isAgg0
  z0 := Tryz.sizeOf0
  v0 := Tryz.zeroValue0
  t2 := Tryz.underlying2
  a2 := Tryz.isAgg2
  z2 := Tryz.sizeOf2
  v2 := Tryz.zeroValue2
  t3 := Tryz.underlying3
  a3 := Tryz.isAgg3
  z3 := Tryz.sizeOf3
  v3 := Tryz.zeroValue3
  t4 := Tryz.underlying4
  a4 := Tryz.isAgg4
  z4 := Tryz.sizeOf4
  v4 := Tryz.zeroValue4
  t5 := Tryz.underlying5
  a5 := Tryz.isAgg5
  z5 := Tryz.sizeOf5
  v5 := Tryz.zeroValue5
  t9 := Tryz.underlying9
  a9 := Tryz.isAgg9
  z9 := Tryz.sizeOf9
  v9 := Tryz.zeroValue9
  t20 := Tryz.underlying20
  a20 := Tryz.isAgg20
  z20 := Tryz.sizeOf20
  v20 := Tryz.zeroValue20
  t21 := Tryz.underlying21
  a21 := Tryz.isAgg21
  z21 := Tryz.sizeOf21
  v21 := Tryz.zeroValue21
  t37 := Tryz.underlying26
  a37 := Tryz.isAgg26
  z37 := Tryz.sizeOf26
  v37 := Tryz.zeroValue26
  t46 := Tryz.underlying118
  a46 := Tryz.isAgg118
  z46 := Tryz.sizeOf118
  v46 := Tryz.zeroValue118
  t51 := Tryz.underlying106
  a51 := Tryz.isAgg106
  z51 := Tryz.sizeOf106
  v51 := Tryz.zeroValue106
  t53 := Tryz.underlying141
  a53 := Tryz.isAgg141
  z53 := Tryz.sizeOf141
  v53 := Tryz.zeroValue141
  t75 := Tryz.underlying122
  a75 := Tryz.isAgg122
  z75 := Tryz.sizeOf122
  v75 := Tryz.zeroValue122
  t76 := Tryz.underlying123
  a76 := Tryz.isAgg123
  z76 := Tryz.sizeOf123
  v76 := Tryz.zeroValue123
  t85 := Tryz.underlying149
  a85 := Tryz.isAgg149
  z85 := Tryz.sizeOf149
  v85 := Tryz.zeroValue149
  t127 := Tryz.underlying173
  a127 := Tryz.isAgg173
  z127 := Tryz.sizeOf173
  v127 := Tryz.zeroValue173
  t143 := Tryz.underlying174
  a143 := Tryz.isAgg174
  z143 := Tryz.sizeOf174
  v143 := Tryz.zeroValue174
  t145 := Tryz.underlying176
  a145 := Tryz.isAgg176
  z145 := Tryz.sizeOf176
  v145 := Tryz.zeroValue176
  t167 := Tryz.underlying148
  a167 := Tryz.isAgg148
  z167 := Tryz.sizeOf148
  v167 := Tryz.zeroValue148
  t168 := Tryz.underlying151
  a168 := Tryz.isAgg151
  z168 := Tryz.sizeOf151
  v168 := Tryz.zeroValue151
  t171 := Tryz.underlying178
  a171 := Tryz.isAgg178
  z171 := Tryz.sizeOf178
  v171 := Tryz.zeroValue178
  t173 := Tryz.underlying180
  a173 := Tryz.isAgg180
  z173 := Tryz.sizeOf180
  v173 := Tryz.zeroValue180
  t175 := Tryz.underlying162
  a175 := Tryz.isAgg162
  z175 := Tryz.sizeOf162
  v175 := Tryz.zeroValue162
  t210 := Tryz.underlying166
  a210 := Tryz.isAgg166
  z210 := Tryz.sizeOf166
  v210 := Tryz.zeroValue166
  t212 := Tryz.underlying184
  a212 := Tryz.isAgg184
  z212 := Tryz.sizeOf184
  v212 := Tryz.zeroValue184
  t213 := Tryz.underlying185
  a213 := Tryz.isAgg185
  z213 := Tryz.sizeOf185
  t232 := Tryz.underlying186
  a232 := Tryz.isAgg186
  z232 := Tryz.sizeOf186
  v232 := Tryz.zeroValue186
  t233 := Tryz.underlying187
  a233 := Tryz.isAgg187
  z233 := Tryz.sizeOf187
  v233 := Tryz.zeroValue187
  g15 := by kernel_rfl
  g16 := by kernel_rfl
  g17 := by kernel_rfl
  g18 := by kernel_rfl
  g19 := by kernel_rfl
  t80 := Tryz.underlying188
  a80 := Tryz.isAgg188
  z80 := Tryz.sizeOf188
  v80 := Tryz.zeroValue188
  i0 := by kernel_rfl
  i2 := by kernel_rfl
  i3 := by kernel_rfl
  i4 := by kernel_rfl
  i5 := by kernel_rfl
  i9 := by kernel_rfl
  i20 := by kernel_rfl
  i21 := by kernel_rfl
  i37 := by kernel_rfl
  i46 := by kernel_rfl
  i51 := by kernel_rfl
  i53 := by kernel_rfl
  i75 := by kernel_rfl
  i76 := by kernel_rfl
  i80 := by kernel_rfl
  i85 := by kernel_rfl
  i127 := by kernel_rfl
  i143 := by kernel_rfl
  i145 := by kernel_rfl
  i167 := by kernel_rfl
  i168 := by kernel_rfl
  i171 := by kernel_rfl
  i173 := by kernel_rfl
  i175 := by kernel_rfl
  i210 := by kernel_rfl
  i212 := by kernel_rfl
  i232 := by kernel_rfl
  i233 := by kernel_rfl
  m15 := by kernel_rfl
  m16 := by kernel_rfl
  m17 := by kernel_rfl
  m18 := by kernel_rfl
  m19 := by kernel_rfl
  c0 := by kernel_rfl
  c2 := by kernel_rfl
  c3 := by kernel_rfl
  c4 := by kernel_rfl
  c5 := by kernel_rfl
  c9 := by kernel_rfl
  c20 := by kernel_rfl
  c21 := by kernel_rfl
  c37 := by kernel_rfl
  c46 := by kernel_rfl
  c51 := by kernel_rfl
  c53 := by kernel_rfl
  c75 := by kernel_rfl
  c76 := by kernel_rfl
  c80 := by kernel_rfl
  c85 := by kernel_rfl
  c127 := by kernel_rfl
  c143 := by kernel_rfl
  c145 := by kernel_rfl
  c167 := by kernel_rfl
  c168 := by kernel_rfl
  c171 := by kernel_rfl
  c173 := by kernel_rfl
  c175 := by kernel_rfl
  c210 := by kernel_rfl
  c212 := by kernel_rfl
  c213 := by kernel_rfl
  c232 := by kernel_rfl
  c233 := by kernel_rfl }
open Go.RowKit in
/-- strconv.Atoi at a text that is no number: 0, and an error (laid: one application). -/
theorem Tryz.strconv_Atoi_none (s : ByteArray) (hlim : s.size ≤ 281474976710656) (h : Lib.atoiAll s.data.toList = Lib.atoiAll []) (ev : Value) (w : World) (hv : w.cell? ⟨0, 0, none⟩ = some ev) (hev : ev = .nilIface ∨ ∃ te pe, ev = .iface te pe) :
    Calls Tryz.prog 95 #[.string s] w fun e w' => ∃ N, e = .returned (.tuple #[.int .i64 (0), .iface 151 (.pointer (some ⟨N, 0, none⟩))]) ∧ w.heap.size ≤ N ∧ w'.heap[N]? = some (.cells #[.string ⟨#[65, 116, 111, 105]⟩, .string s, ev] 166 (0, 0)) ∧ Below w.heap.size w w' := Any.strconv_Atoi_syntax Tryz.laysC172 s hlim h ev w hv hev
end Go.Proofs
/- Which segment has the file of the first one's spare. Conditions: as stated at each. -/
namespace Go.Proofs.YtidadjlhnlmfkaaGreatDoor
open Go.RowKit Go.Shelf Go Go.Maps
/-- the name of the first segment's spare. -/
def spN (nm : ByteArray) : ByteArray := fileN nm 1 ++ spareB
theorem spN_data (nm : ByteArray) : (spN nm).data.toList = (fileN nm 1).data.toList ++ spareB.data.toList := by
  unfold spN
  rw [ByteArray.data_append, Array.toList_append]
theorem spN_size (nm : ByteArray) : (spN nm).size = nm.size + 11 := by
  unfold spN
  rw [ByteArray.size_append, fileN_size]
  rfl
theorem trimS_sp (nm : ByteArray) : Go.Lib.trimSuffix (spN nm).data.toList spareB.data.toList = (fileN nm 1).data.toList := by
  rw [spN_data]
  unfold Go.Lib.trimSuffix Go.Lib.hasSuffix
  rw [if_pos (List.isSuffixOf_iff_suffix.2 ⟨_, rfl⟩), List.length_append, Nat.add_sub_cancel, List.take_left]
theorem trimP_sp (nm : ByteArray) : Go.Lib.trimPrefix (spN nm).data.toList (nm ++ ⟨#[46]⟩).data.toList = digs 1 ++ spareB.data.toList := by
  have e : (nm ++ (⟨#[46]⟩ : ByteArray)).data.toList = nm.data.toList ++ [46] := by simp
  rw [spN_data, fileN_data, e, List.append_assoc]
  unfold Go.Lib.trimPrefix Go.Lib.hasPrefix
  rw [if_pos (List.isPrefixOf_iff_prefix.2 ⟨_, rfl⟩), List.drop_left]
theorem atoi_sp : Go.Lib.atoiAll (digs 1 ++ spareB.data.toList) = Go.Lib.atoiAll [] := by decide +kernel
/-- what strconv.ErrSyntax holds is an error, or none. -/
def EG (w : World) : Prop := ∃ ev, w.cell? ⟨0, 0, none⟩ = some ev ∧ (ev = .nilIface ∨ ∃ te pe, ev = .iface te pe)
theorem EG.lt {w : World} (h : EG w) : 0 < w.heap.size := by obtain ⟨ev, h, _⟩ := h; exact Lib.lt_of_cell h
theorem EG.below {w w' : World} (h : EG w) (hb : Below w.heap.size w w') : EG w' := by
  have hl := h.lt
  obtain ⟨ev, h1, h2⟩ := h
  exact ⟨ev, (hb.cell (p := ⟨0, 0, none⟩) hl).trans h1, h2⟩
theorem EG.tn {w w' : World} {p : Nat → Prop} (h : EG w) (hT : Tn p w w') (hp : ¬ p 0) : EG w' := by
  have hl := h.lt
  obtain ⟨ev, h1, h2⟩ := h
  refine ⟨ev, ?_, h2⟩
  rw [← h1]
  simp only [World.cell?, hT.block 0 hl hp]
set_option maxRecDepth 20000 in
set_option maxHeartbeats 800000 in
/-- the spare's name, with spare behind: 1; with nothing behind: 0. -/
theorem number_sp (W : World) (L Dk : Nat) (nm : ByteArray) (sz : Int) (G : Nat) (last : Int) (dead : Bool) (hL : LogB W L Dk nm sz G last dead) (hn : nm.size ≤ 1000000) (hE : EG W) (be : ByteArray) (hbe : be = ⟨#[]⟩ ∨ be = spareB) :
    Calls Tryz.prog 76 #[.pointer (some ⟨L, 0, none⟩), .string (spN nm), .string be] W fun e w' => e = .returned (.int .i64 (if be = ⟨#[]⟩ then (0 : Int) else 1)) ∧ Below W.heap.size W w' := by
  have c1 := BlkIs.cell hL 1
  have hsz := spN_size nm
  obtain ⟨ts, tp, v, p1, p2, p3, p4⟩ : ∃ (ts tp : ByteArray) (v : Nat), (⟨(Go.Lib.trimSuffix (spN nm).data.toList be.data.toList).toArray⟩ : ByteArray) = ts ∧ (⟨(Go.Lib.trimPrefix ts.data.toList (nm ++ (⟨#[46]⟩ : ByteArray)).data.toList).toArray⟩ : ByteArray) = tp ∧
      (v ≤ 1 ∧ ((be = ⟨#[]⟩ ∧ v = 0) ∨ (be = spareB ∧ v = 1))) ∧
      ∀ w, Below W.heap.size W w → Calls Tryz.prog 95 #[.string tp] w fun e w' => (∃ er, e = .returned (.tuple #[.int .i64 (v : Nat), er])) ∧ Below w.heap.size w w' := by
    rcases hbe with rfl | rfl
    · refine ⟨spN nm, str (digs 1 ++ spareB.data.toList), 0, ?_, ?_, ⟨by omega, .inl ⟨rfl, rfl⟩⟩, fun w hw => ?_⟩
      · rw [show (⟨#[]⟩ : ByteArray).data.toList = [] from rfl, trimS_none]
      · rw [trimP_sp]; rfl
      · obtain ⟨ev, e1, e2⟩ := hE.below hw
        refine (Tryz.strconv_Atoi_none (str (digs 1 ++ spareB.data.toList)) (by decide) atoi_sp ev w e1 e2).mono ?_
        rintro e w' ⟨n, rfl, _, _, hb⟩
        exact ⟨⟨_, rfl⟩, hb⟩
    · refine ⟨fileN nm 1, str (digs 1), 1, ?_, tP nm 1, ⟨by omega, .inr ⟨rfl, rfl⟩⟩, fun w hw => ?_⟩
      · rw [trimS_sp]
      · refine (Tryz.strconv_Atoi (str (digs 1)) 1 (by show (digs 1).length ≤ 18; rw [digs_length]; omega) (digs_val 1 (by omega)) w).mono ?_
        rintro e w' ⟨rfl, t, rfl⟩
        exact ⟨⟨_, rfl⟩, Lib.bytesWorld_below w 5 t⟩
  have HTS : Hid (∀ w, Calls Tryz.prog 94 #[.string (spN nm), .string be] w fun e w' => e = .returned (.string ts) ∧ w = w') := Lib.hid fun w => ts_call w _ _ _ (by rcases hbe with rfl | rfl <;> omega) p1
  have HTP : Hid (∀ w, Calls Tryz.prog 93 #[.string ts, .string (nm ++ ⟨#[46]⟩)] w fun e w' => e = .returned (.string tp) ∧ w = w') := Lib.hid fun w => tp_call w _ _ _ p2
  have HAT := Lib.hid p4
  have HLF : Hid (∀ w, Below W.heap.size W w → Calls Tryz.prog 30 #[.pointer (some ⟨L, 0, none⟩), .int .i64 v] w fun e w' => e = .returned (.string (fileN nm v)) ∧ Below w.heap.size w w') := Lib.hid fun w hw => lfile_any w L Dk nm sz G last dead v ((hw.block _ hL.lt).trans hL) (by omega) hn
  have hcat : ¬ 9223372036854775807 < nm.size + 1 := by omega
  have hfs := fileN_size nm v
  have hcat2 : ¬ 9223372036854775807 < (fileN nm v).size + be.size := by
    rcases hbe with rfl | rfl
    · show ¬ 9223372036854775807 < (fileN nm v).size + 0; omega
    · show ¬ 9223372036854775807 < (fileN nm v).size + 4; omega
  have hx0 : ∀ w (v u : Value), (Instr.extract (.tuple #[v, u]) 0).run Tryz.prog w = .ok v w := fun _ _ _ => by kernel_rfl
  have hx1 : ∀ w (v u : Value), (Instr.extract (.tuple #[v, u]) 1).run Tryz.prog w = .ok u w := fun _ _ _ => by kernel_rfl
  have hbool : (be = ⟨#[]⟩ ∧ v = 0 ∧ ((fileN nm v ++ be).toList == (spN nm).toList) = false) ∨ (be = spareB ∧ v = 1 ∧ ((fileN nm v ++ be).toList == (spN nm).toList) = true) := by
    rcases p3.2 with ⟨rfl, rfl⟩ | ⟨rfl, rfl⟩
    · refine .inl ⟨rfl, rfl, ?_⟩
      rw [beq_eq_false_iff_ne, Go.Lib.toList_data, Go.Lib.toList_data]
      intro e
      have := congrArg List.length e
      rw [← Go.Lib.size_eq, ← Go.Lib.size_eq, app_nil_, fileN_size, spN_size] at this
      omega
    · exact .inr ⟨rfl, rfl, by rw [beq_iff_eq]; rfl⟩
  have HBO := Lib.hid hbool
  have hne : ¬ spareB = ⟨#[]⟩ := by decide
  clear hbool p1 p2 p3 p4 hfs
  generalize hfn : fileN nm v = fn at *
  generalize hsn : spN nm = sn at *
  clear hfn hsn hbe
  have HR : Hid ((((fn ++ be).toList == sn.toList) = false ∧ (if be = ⟨#[]⟩ then (0 : Int) else 1) = 0) ∨ (((fn ++ be).toList == sn.toList) = true ∧ (if be = ⟨#[]⟩ then (0 : Int) else 1) = (v : Nat))) := Lib.hid (by
    rcases HBO.out with ⟨rfl, rfl, h⟩ | ⟨rfl, rfl, h⟩
    · exact .inl ⟨h, by rw [if_pos rfl]⟩
    · exact .inr ⟨h, by rw [if_neg hne]; rfl⟩)
  clear HBO hne hE
  generalize (if be = ⟨#[]⟩ then (0 : Int) else 1) = r at *
  go_enter Tryz.func76, Tryz.ntmps76
  go_wp2_with fail
  go_quiet ((first | (go_at_call 94; exact quiet_q (fun w => HTS.out w) _ _) | (go_at_call 93; exact quiet_q (fun w => HTP.out w) _ _)))
  have hb1 := drewN_below W W.heap.size nq
  have c2 := (hb1.cell (p := ⟨L, 1, none⟩) hL.lt).trans c1
  have hL1 : LogB (W.drewN nq) L Dk nm sz G last dead := hL
  generalize W.drewN nq = w1 at *
  have HB1 := Lib.hid hb1
  go_wp2_with fail
  refine (HAT.out w1 HB1.out).mono ?_
  rintro e w2 ⟨⟨er, rfl⟩, hb2⟩
  have HB2 := Lib.hid (HB1.out.trans (hb2.mono HB1.out.size))
  clear hb2
  go_wp2_with fail
  refine (HLF.out w2 HB2.out).mono ?_
  rintro e w3 ⟨rfl, hb3⟩
  have HB3 := Lib.hid (HB2.out.trans (hb3.mono HB2.out.size))
  clear hb3
  rcases HR.out with ⟨hee, hr⟩ | ⟨hee, hr⟩
  · subst hr
    go_wp2_with fail
    go_ret
    exact ⟨rfl, HB3.out⟩
  · subst hr
    go_wp2_with fail
    go_ret
    exact ⟨rfl, HB3.out⟩
end Go.Proofs.YtidadjlhnlmfkaaGreatDoor
/- The iterator over a log's files, over the first segment's file and its spare. Conditions: as stated at each. -/
namespace Go.Proofs.YtidadjlhnlmfkaaGreatDoor
open Go.RowKit Go.Shelf Go Go.Maps
attribute [local go_sem] Oper.semAt_some
theorem spN_ne (nm : ByteArray) (j : Nat) : spN nm ≠ fileN nm j := fun e => by
  have := congrArg ByteArray.size e
  rw [spN_size, fileN_size] at this
  omega
theorem names_sp {nm : ByteArray} {F : Files} {ns : List ByteArray} (h : NamesOf F ns) (hF : ∀ t, F t ≠ none ↔ t = fileN nm 1 ∨ t = spN nm) : ns = [fileN nm 1, spN nm] := by
  have hnd : [fileN nm 1, spN nm].Nodup := by
    simp only [List.nodup_cons, List.mem_singleton, List.not_mem_nil, not_false_eq_true, List.nodup_nil, and_true]
    exact fun e => spN_ne nm 1 e.symm
  have hpw : [fileN nm 1, spN nm].Pairwise (fun a b => a.data.toList ≤ b.data.toList) := by
    refine List.Pairwise.cons (fun b hb => ?_) (List.pairwise_singleton _ _)
    rw [List.mem_singleton.1 hb, spN_data]
    exact List.IsPrefix.le ⟨_, rfl⟩
  refine List.Perm.eq_of_pairwise (le := fun a b => a.data.toList ≤ b.data.toList) (fun a b _ _ h1 h2 => ?_) h.2.2.1 hpw ?_
  · have := List.le_antisymm h1 h2
    rw [← toBA_list a, ← toBA_list b, this]
  · refine (List.perm_ext_iff_of_nodup h.1 hnd).2 fun t => ?_
    rw [h.2.1 t, hF t]
    simp
/-- what holds behind i names, the first file and its spare. -/
def JP (J : Nat → World → Prop) (on : Bool) (i : Nat) (X : World) : Prop := J (if on then min i 1 else i - 1) X
set_option maxRecDepth 100000 in
set_option maxHeartbeats 1600000 in
theorem files_seqP (n : Nat) (hn : 1 ≤ n) (on : Bool) (w : World) (B0 B1 L Dk G k : Nat) (N : Nat) (Ft : Nat → Prop) (F : Files) (rm x lf : Int) (nm : ByteArray) (sz : Int) (g : List (Nat × Nat)) (p : Nat → Prop)
    (h0 : BlkIs w B0 32 #[.pointer (some ⟨L, 0, none⟩)]) (h1 : BlkIs w B1 9 #[.string (beL on)]) (h : LogS w N Ft Dk k F rm x lf false L G nm sz g false) (hk : k ≤ 1000000) (hnm : nm.size ≤ 1000000)
    (hF : ∀ t, F t ≠ none ↔ t = fileN nm 1 ∨ t = spN nm) (hp0 : p B0) (hp1 : p B1) (hpn : ∀ k, w.heap.size ≤ k → p k) (hpE : ∀ X, Sm p w X → EG X)
    (lp : Nat) (J : Nat → World → Prop) (Jx : World → Prop) (Jp : List PanicEntry → World → Prop) (W : World) (hW : Below w.heap.size w W) (hJ : ∀ r W W', J r W → W.grownBy W' none → J r W')
    (hY : ∀ r x r' W1, J r W1 → stepL true 1 r x r' W1 → YieldAt Fence.wide (n - 1) Tryz.prog lp (encI x) W1 (YdK J Jx Jp (KpL p L Dk nm sz G) r' W1)) (h00 : J 0 W) :
    CallsIn Fence.wide n Tryz.prog 74 (#[.func (.yield lp) #[] #[]] ++ #[.pointer (some ⟨B0, 0, none⟩), .pointer (some ⟨B1, 0, none⟩)]) W (LnK (finL true 1) J Jx Jp) := by
  refine callsIn_of_wp Tryz.func74 rfl trivial ?_ rfl
  have hl := h.below hW
  have c0 := (hW.cell (p := ⟨B0, 0, none⟩) h0.lt).trans (h0.cell 0)
  have cL := BlkIs.cell hl.2.1 0
  have b0W : BlkIs W B0 32 #[.pointer (some ⟨L, 0, none⟩)] := (hW.block _ h0.lt).trans h0
  have b1W : BlkIs W B1 9 #[.string (beL on)] := (hW.block _ h1.lt).trans h1
  have HNA := Lib.hid (names_any W N Ft Dk k F rm x lf hl.1 hk)
  have hLN : LogN L Dk nm sz G W := ⟨_, hl.2.1⟩
  have hwW := hW.size
  simp only [Tryz.ntmps74, List.size_toArray, List.length_cons, List.length_nil, Nat.reduceAdd, Nat.reduceSub, Array.replicate_succ, Array.replicate_zero, List.push_toArray, List.append_toArray, List.nil_append, List.cons_append]
  gi_wp2_with fail
  refine ⟨trivial, ?_⟩
  refine (callsIn_wide.2 HNA.out).mono ?_
  rintro e w1 ⟨A, cc, ns, rfl, hrow, hno, hnl, hb1⟩
  have hns := names_sp hno hF
  subst hns
  have HE1 : Hid (∀ X, Sm p w1 X → EG X) := Lib.hid fun X hX => hpE X (((Sm.of_below (p := p) hW).trans (Sm.of_below hb1)).trans hX)
  rw [show ([fileN nm 1, spN nm] : List ByteArray).length = 2 from rfl] at hrow ⊢
  have HJ1 := Lib.hid (hJ _ _ _ h00 (Below.grownNone hb1))
  have HL1 := Lib.hid ((KpL.of_below (p := p) hb1).2 hLN)
  have HS1 := Lib.hid (show BlkIs w1 B0 32 #[.pointer (some ⟨L, 0, none⟩)] ∧ BlkIs w1 B1 9 #[.string (beL on)] from ⟨(hb1.block _ b0W.lt).trans b0W, (hb1.block _ b1W.lt).trans b1W⟩)
  have HROW := Lib.hid hrow
  clear hrow hno hl h h00 hLN hpE
  gi_wp2_with fail
  gi_loopw [13] (fun v wr => ∃ i : Nat, i ≤ 2 ∧ v = .int .i64 i ∧ JP J on i wr ∧ Sm p w1 wr ∧ LogN L Dk nm sz G wr) (fun v _ => 2 - (intOf v).toNat)
  case atStart => exact ⟨0, Nat.zero_le _, rfl, (by unfold JP; cases on <;> exact HJ1.out), Sm.refl _ _, HL1.out⟩
  case round =>
    obtain ⟨i, hi, rfl, hj, hsm, hln⟩ := hrel
    have HJ2 := Lib.hid hj
    have HSM := Lib.hid hsm
    have HLN := Lib.hid hln
    by_cases hlt : i < 2
    · have hlt2 : (i : Int) < (2 : Int) := by omega
      have hlt3 : (i : Int) < ((2 : Nat) : Int) := by omega
      obtain ⟨gr, cap, hv, hgN, hglt⟩ := HROW.out.form (by omega)
      injection hv with hv1 hv2 hv3
      subst hv1
      subst hv3
      obtain ⟨nt, hnt⟩ : ∃ nt, [fileN nm 1, spN nm][i]? = some nt := ⟨_, List.getElem?_eq_getElem hlt⟩
      have hcell : wr.cell? ⟨gr, i, none⟩ = some (.string nt) := by
        have h1 := HROW.out.cells (g := gr) rfl i (.string nt) (by rw [List.getElem?_map, hnt]; rfl)
        have h2 : w1.cell? ⟨gr, i, none⟩ = some (.string nt) := by
          have e : (⟨gr, 0, none⟩ : Addr).add i = ⟨gr, i, none⟩ := by unfold Addr.add; split <;> simp_all
          rwa [e] at h1
        exact HSM.out.cell (a := ⟨gr, i, none⟩) (hpn gr (by omega)) h2
      have x0 := (HSM.out.blk HS1.out.1 hp0).cell 0
      have x1 := (HSM.out.blk HS1.out.2 hp1).cell 0
      obtain ⟨la, hla⟩ := HLN.out
      have hnu : ∃ q : Int, (q = 0 ∨ q = 1) ∧ (q = 1 ↔ (i = 0 ↔ on = true)) ∧ Calls Tryz.prog 76 #[.pointer (some ⟨L, 0, none⟩), .string nt, .string (beL on)] wr fun e w' => e = .returned (.int .i64 q) ∧ Below wr.heap.size wr w' := by
        have hi01 : i = 0 ∨ i = 1 := by omega
        rcases hi01 with rfl | rfl
        · obtain rfl : nt = fileN nm 1 := by simpa using hnt.symm
          have := number_any wr L Dk nm sz G la false hla hnm 1 (by omega) (beL on) (by cases on; exact .inr rfl; exact .inl rfl)
          cases on with
          | false => exact ⟨0, .inl rfl, by simp, by rwa [show (if beL false = ⟨#[]⟩ then ((1 : Nat) : Int) else 0) = 0 from if_neg (by decide)] at this⟩
          | true => exact ⟨1, .inr rfl, by simp, by rwa [show (if beL true = ⟨#[]⟩ then ((1 : Nat) : Int) else 0) = 1 from if_pos rfl] at this⟩
        · obtain rfl : nt = spN nm := by simpa using hnt.symm
          have := number_sp wr L Dk nm sz G la false hla hnm (HE1.out wr HSM.out) (beL on) (by cases on; exact .inr rfl; exact .inl rfl)
          cases on with
          | false => exact ⟨1, .inr rfl, by simp, by rwa [show (if beL false = ⟨#[]⟩ then (0 : Int) else 1) = 1 from if_neg (by decide)] at this⟩
          | true => exact ⟨0, .inl rfl, by simp, by rwa [show (if beL true = ⟨#[]⟩ then (0 : Int) else 1) = 0 from if_pos rfl] at this⟩
      obtain ⟨q, hq01, hqi, hnuc⟩ := hnu
      have HNU := Lib.hid hnuc
      have HQ := Lib.hid hqi
      clear hj hsm hln hla hnuc hqi hnt
      generalize hbe : beL on = be at *
      gi_wp2_with fail
      refine ⟨trivial, ?_⟩
      refine (callsIn_wide.2 HNU.out).mono ?_
      rintro e w2 ⟨rfl, hb2⟩
      have HJ3 : Hid (JP J on i w2) := Lib.hid (hJ _ _ _ HJ2.out (Below.grownNone hb2))
      have HK2 := Lib.hid (KpL.of_below (p := p) (L := L) (Dk := Dk) (nm := nm) (sz := sz) (G := G) hb2)
      clear hb2
      rcases hq01 with rfl | rfl
      · have hno : Hid (JP J on (i + 1) w2) := Lib.hid (by
          have hh := HJ3.out
          have hq := HQ.out
          unfold JP at hh ⊢
          have hi01 : i = 0 ∨ i = 1 := by omega
          rcases hi01 with rfl | rfl
          · cases on with
            | false => exact hh
            | true => exact absurd (hq.2 (by simp)) (by decide)
          · cases on with
            | false => exact absurd (hq.2 (by simp)) (by decide)
            | true => exact hh)
        clear HQ
        gi_wp2_with fail
        refine ⟨(fun f h => by cases h), ?_⟩
        gi_wp2_with fail
        go_roundw
        case rel =>
          exact ⟨i + 1, by omega, by go_num, hno.out, HSM.out.trans HK2.out.1, HK2.out.2 HLN.out⟩
        case measure => simp [intOf]; omega
      · have hj0 : J 0 w2 ∧ Hid (∀ X, J 1 X → JP J on (i + 1) X) := by
          have hh := HJ3.out
          have hq := HQ.out.1 rfl
          unfold JP at hh
          have hi01 : i = 0 ∨ i = 1 := by omega
          rcases hi01 with rfl | rfl
          · have ho : on = true := hq.1 rfl
            subst ho
            exact ⟨hh, Lib.hid fun X hX => hX⟩
          · cases on with
            | false => exact ⟨hh, Lib.hid fun X hX => hX⟩
            | true => exact absurd (hq.2 rfl) (by decide)
        obtain ⟨hj0, HNX⟩ := hj0
        have z0 : (0 : Int) < (1 : Int) := by omega
        obtain ⟨fn, tmps, assign, body, hy, hR⟩ := hY 0 1 1 w2 hj0 ⟨rfl, by omega, rfl, rfl⟩
        dsimp only [encI] at hy
        rw [show ((1 : Nat) : Int) = 1 from rfl] at hy
        clear HQ hj0
        gi_wp2_with fail
        refine hR.mono ?_
        rintro e W3 (⟨rfl, hJ4, hK4⟩ | ⟨rfl, hx⟩ | ⟨ch, rfl, hpn⟩)
        · have HJ4 := Lib.hid (HNX.out _ hJ4)
          have HK4 := Lib.hid (HK2.out.trans hK4)
          clear hJ4 hR hy hK4
          gi_wp2_with fail
          go_roundw
          case rel => exact ⟨i + 1, by omega, by go_num, HJ4.out, HSM.out.trans HK4.out.1, HK4.out.2 HLN.out⟩
          case measure => simp [intOf]; omega
        · gi_wp2_with fail
          go_end0
          exact .inl ⟨⟨_, rfl⟩, .inr hx⟩
        · exact ⟨rfl, .inr ⟨ch, rfl, hpn⟩⟩
    · have hlt2 : ¬ (i : Int) < (2 : Int) := by omega
      have hlt3 : ¬ (i : Int) < ((2 : Nat) : Int) := by omega
      gi_wp2_with fail
      go_end0
      have hi2 : i = 2 := by omega
      subst hi2
      have hj9 : J 1 wr := by
        have := HJ2.out
        unfold JP at this
        cases on <;> exact this
      exact .inl ⟨⟨_, rfl⟩, .inl ⟨1, fun _ => rfl, hj9⟩⟩
end Go.Proofs.YtidadjlhnlmfkaaGreatDoor
