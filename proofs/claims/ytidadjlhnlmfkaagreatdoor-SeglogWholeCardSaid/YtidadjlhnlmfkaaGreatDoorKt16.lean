/- SlNumber. Conditions: as stated at each. -/
import Derived.Test.YtidadjlhnlmfkaaGreatDoorKt12
import Derived.Test.YtidadjlhnlmfkaaGreatDoorKt14
import Derived.Test.YtidadjlhnlmfkaaGreatDoorKt15
import Derived.BigQuiet
import Derived.Lib.AtoiErrMem
import Derived.Deep.QuietTactic
/- Which segment has the file of a name, of names of segments. Conditions: as stated at each. -/
namespace Go.Proofs.YtidadjlhnlmfkaaGreatDoor
open Go.RowKit Go.Shelf Go Go.Maps
theorem quiet_q {f : FuncId} {args : Array Value} {v : Value} (h : ∀ w, Calls Tryz.prog f args w fun e w' => e = .returned v ∧ w = w') (w : World) (n : Nat) :
    Calls Tryz.prog f args (w.drewN n) fun e w'' => e = .returned v ∧ ∃ m, w'' = w.drewN m := (h (w.drewN n)).mono fun _ _ ⟨h1, h2⟩ => ⟨h1, n, h2.symm⟩
theorem digs_val (j : Nat) (hj : j ≤ 999999) : Go.Lib.atoi (digs j) = some (j : Int) := by
  have m5 : ∀ n i, n / 10 ^ i % 10 < 10 := fun n i => Nat.mod_lt _ (by omega)
  have dv : ∀ d, d < 10 → Go.Lib.digitVal (UInt8.ofNat (48 + d)) = some d := fun d hd => by
    unfold Go.Lib.digitVal
    have e : (UInt8.ofNat (48 + d)).toNat = 48 + d := by simp; omega
    rw [e, if_pos (by omega)]
    congr 1
    omega
  have ne : ∀ d c, d < 10 → c < 48 → (UInt8.ofNat (48 + d) == UInt8.ofNat c) = false := fun d c hd hc => by
    rw [beq_eq_false_iff_ne]
    intro e
    have := congrArg UInt8.toNat e
    simp at this
    omega
  have step : ∀ acc d r, d < 10 → Go.Lib.decFrom acc (UInt8.ofNat (48 + d) :: r) = Go.Lib.decFrom (acc * 10 + d) r := fun acc d r hd => by
    rw [Go.Lib.decFrom, dv d hd]
  show Go.Lib.atoi (UInt8.ofNat (48 + j / 10 ^ 5 % 10) :: UInt8.ofNat (48 + j / 10 ^ 4 % 10) :: UInt8.ofNat (48 + j / 10 ^ 3 % 10) :: UInt8.ofNat (48 + j / 10 ^ 2 % 10) :: UInt8.ofNat (48 + j / 10 ^ 1 % 10) :: UInt8.ofNat (48 + j / 10 ^ 0 % 10) :: []) = _
  unfold Go.Lib.atoi
  rw [show ((45 : UInt8)) = UInt8.ofNat 45 from rfl, show ((43 : UInt8)) = UInt8.ofNat 43 from rfl]
  simp only [ne _ _ (m5 j 5) (show 45 < 48 by omega), ne _ _ (m5 j 5) (show 43 < 48 by omega), Bool.false_eq_true, if_false]
  unfold Go.Lib.decNat
  rw [if_neg (by simp), step _ _ _ (m5 j 5), step _ _ _ (m5 j 4), step _ _ _ (m5 j 3), step _ _ _ (m5 j 2), step _ _ _ (m5 j 1), step _ _ _ (m5 j 0)]
  simp only [Go.Lib.decFrom, Option.map_some, Option.some.injEq]
  simp only [show (10 : Nat) ^ 5 = 100000 from rfl, show (10 : Nat) ^ 4 = 10000 from rfl, show (10 : Nat) ^ 3 = 1000 from rfl, show (10 : Nat) ^ 2 = 100 from rfl, show (10 : Nat) ^ 1 = 10 from rfl, show (10 : Nat) ^ 0 = 1 from rfl]
  omega
theorem trimS_none (l : List UInt8) : Go.Lib.trimSuffix l [] = l := by
  unfold Go.Lib.trimSuffix
  split
  · simp
  · rfl
theorem trimS_new (nm : ByteArray) (j : Nat) : Go.Lib.trimSuffix (fileN nm j).data.toList [46, 110, 101, 119] = (fileN nm j).data.toList := by
  unfold Go.Lib.trimSuffix
  rw [if_neg]
  intro h
  unfold Go.Lib.hasSuffix at h
  have h := List.isSuffixOf_iff_suffix.1 h
  obtain ⟨t, ht⟩ := h
  rw [fileN_data] at ht
  have e : digs j = [UInt8.ofNat (48 + j / 10 ^ 5 % 10), UInt8.ofNat (48 + j / 10 ^ 4 % 10), UInt8.ofNat (48 + j / 10 ^ 3 % 10), UInt8.ofNat (48 + j / 10 ^ 2 % 10), UInt8.ofNat (48 + j / 10 ^ 1 % 10)] ++ [UInt8.ofNat (48 + j / 10 ^ 0 % 10)] := rfl
  rw [e, ← List.append_assoc, show t ++ [(46 : UInt8), 110, 101, 119] = (t ++ [46, 110, 101]) ++ [119] by simp] at ht
  have h2 := (List.append_inj' ht rfl).2
  injection h2 with h2 _
  have := congrArg UInt8.toNat h2
  have hm : j / 10 ^ 0 % 10 < 10 := Nat.mod_lt _ (by omega)
  simp at this
  omega
theorem trimP_file (nm : ByteArray) (j : Nat) : Go.Lib.trimPrefix (fileN nm j).data.toList (nm ++ ⟨#[46]⟩).data.toList = digs j := by
  have e : (nm ++ (⟨#[46]⟩ : ByteArray)).data.toList = nm.data.toList ++ [46] := by simp
  rw [fileN_data, e]
  unfold Go.Lib.trimPrefix Go.Lib.hasPrefix
  rw [if_pos (List.isPrefixOf_iff_prefix.2 ⟨_, rfl⟩), List.drop_left]
theorem str_dat (l : List UInt8) : (str l).data.toList = l := rfl
theorem ba_inj {a b : ByteArray} (h : a.data.toList = b.data.toList) : a = b := by
  cases a with
  | mk a => cases b with
    | mk b =>
      congr 1
      exact Array.toList_inj.1 h
theorem app_len (a b : ByteArray) : (a ++ b).toList.length = a.toList.length + b.size := by
  rw [Go.Lib.toList_data, Go.Lib.toList_data, ByteArray.data_append, Array.toList_append, List.length_append]
  rfl
theorem app_nil_ (a : ByteArray) : a ++ (⟨#[]⟩ : ByteArray) = a := by apply ByteArray.ext; simp
theorem ba_list (s : ByteArray) : (⟨s.data.toList.toArray⟩ : ByteArray) = s := by cases s; simp
theorem tS {nm : ByteArray} {j : Nat} {be : ByteArray} (hbe : be = ⟨#[]⟩ ∨ be = spareB) : (⟨(Go.Lib.trimSuffix (fileN nm j).data.toList be.data.toList).toArray⟩ : ByteArray) = fileN nm j := by
  rcases hbe with rfl | rfl
  · rw [show (⟨#[]⟩ : ByteArray).data.toList = [] from rfl, trimS_none]
  · rw [show spareB.data.toList = [46, 110, 101, 119] from rfl, trimS_new]
theorem tP (nm : ByteArray) (j : Nat) : (⟨(Go.Lib.trimPrefix (fileN nm j).data.toList (nm ++ (⟨#[46]⟩ : ByteArray)).data.toList).toArray⟩ : ByteArray) = str (digs j) := by rw [trimP_file]; rfl
theorem ts_call (w : World) (a b r : ByteArray) (hb : a.size ≤ 9223372036854775807) (h : (⟨(Go.Lib.trimSuffix a.data.toList b.data.toList).toArray⟩ : ByteArray) = r) : Calls Tryz.prog 94 #[.string a, .string b] w fun e w' => e = .returned (.string r) ∧ w = w' :=
  (Tryz.strings_TrimSuffix a b w hb).mono fun e w' ⟨h1, h2⟩ => ⟨by rw [h1, h], h2.symm⟩
theorem tp_call (w : World) (a b r : ByteArray) (h : (⟨(Go.Lib.trimPrefix a.data.toList b.data.toList).toArray⟩ : ByteArray) = r) : Calls Tryz.prog 93 #[.string a, .string b] w fun e w' => e = .returned (.string r) ∧ w = w' :=
  (Tryz.strings_TrimPrefix a b w).mono fun e w' ⟨h1, h2⟩ => ⟨by rw [h1, h], h2.symm⟩
set_option maxRecDepth 20000 in
set_option maxHeartbeats 800000 in
theorem number_any (W : World) (L Dk : Nat) (nm : ByteArray) (sz : Int) (G : Nat) (last : Int) (dead : Bool) (hL : LogB W L Dk nm sz G last dead) (hn : nm.size ≤ 1000000) (j : Nat) (hj : j ≤ 999999) (be : ByteArray) (hbe : be = ⟨#[]⟩ ∨ be = spareB) :
    Calls Tryz.prog 76 #[.pointer (some ⟨L, 0, none⟩), .string (fileN nm j), .string be] W fun e w' => e = .returned (.int .i64 (if be = ⟨#[]⟩ then (j : Int) else 0)) ∧ Below W.heap.size W w' := by
  have c1 := BlkIs.cell hL 1
  have hsz := fileN_size nm j
  have HTS : Hid (∀ w, Calls Tryz.prog 94 #[.string (fileN nm j), .string be] w fun e w' => e = .returned (.string (fileN nm j)) ∧ w = w') := Lib.hid fun w => ts_call w _ _ _ (by omega) (tS hbe)
  have HTP : Hid (∀ w, Calls Tryz.prog 93 #[.string (fileN nm j), .string (nm ++ ⟨#[46]⟩)] w fun e w' => e = .returned (.string (str (digs j))) ∧ w = w') := Lib.hid fun w => tp_call w _ _ _ (tP nm j)
  have HAT : Hid (∀ w, Calls Tryz.prog 95 #[.string (str (digs j))] w fun e w' => e = .returned (.tuple #[.int .i64 j, .nilIface]) ∧ ∃ t, w' = Lib.bytesWorld w 5 t) := Lib.hid fun w => Tryz.strconv_Atoi (str (digs j)) j (by show (digs j).length ≤ 18; rw [digs_length]; omega) (digs_val j hj) w
  have HLF : Hid (∀ w, Below W.heap.size W w → Calls Tryz.prog 30 #[.pointer (some ⟨L, 0, none⟩), .int .i64 j] w fun e w' => e = .returned (.string (fileN nm j)) ∧ Below w.heap.size w w') := Lib.hid fun w hw => lfile_any w L Dk nm sz G last dead j ((hw.block _ hL.lt).trans hL) hj hn
  have hcat : ¬ 9223372036854775807 < nm.size + 1 := by omega
  have hcat2 : ¬ 9223372036854775807 < (fileN nm j).size + be.size := by
    rcases hbe with rfl | rfl
    · show ¬ 9223372036854775807 < (fileN nm j).size + 0; omega
    · show ¬ 9223372036854775807 < (fileN nm j).size + 4; omega
  have HB : Hid (∀ t, Below W.heap.size W (Lib.bytesWorld W 5 t)) := Lib.hid fun t => Lib.bytesWorld_below W 5 t
  have hx0 : ∀ w (v u : Value), (Instr.extract (.tuple #[v, u]) 0).run Tryz.prog w = .ok v w := fun _ _ _ => by kernel_rfl
  have hx1 : ∀ w (v u : Value), (Instr.extract (.tuple #[v, u]) 1).run Tryz.prog w = .ok u w := fun _ _ _ => by kernel_rfl
  have hlen := app_len (fileN nm j) be
  have heqs : be ≠ ⟨#[]⟩ → ((fileN nm j ++ be).toList == (fileN nm j).toList) = false := fun hb => by
    rw [beq_eq_false_iff_ne]
    intro e
    rw [e] at hlen
    rcases hbe with h | h
    · exact hb h
    · rw [h] at hlen
      have : spareB.size = 4 := rfl
      omega
  have hemp := app_nil_ (fileN nm j)
  have HEQ := Lib.hid heqs
  obtain ⟨r, hr⟩ : ∃ r : Int, r = if be = ⟨#[]⟩ then (j : Int) else 0 := ⟨_, rfl⟩
  rw [← hr]
  have HR := Lib.hid hr
  clear hr
  clear hlen heqs
  generalize hfn : fileN nm j = fn at *
  generalize str (digs j) = ds at *
  clear hfn
  go_enter Tryz.func76, Tryz.ntmps76
  go_wp2_with fail
  go_quiet ((first | (go_at_call 94; exact quiet_q (fun w => HTS.out w) _ _) | (go_at_call 93; exact quiet_q (fun w => HTP.out w) _ _)))
  have hb1 := drewN_below W W.heap.size nq
  have c2 := (hb1.cell (p := ⟨L, 1, none⟩) hL.lt).trans c1
  have hL1 : LogB (W.drewN nq) L Dk nm sz G last dead := hL
  generalize W.drewN nq = w1 at *
  go_wp2_with fail
  refine (HAT.out w1).mono ?_
  rintro e w2 ⟨rfl, t, hw2⟩
  have hb2 : Below W.heap.size W w2 := by rw [hw2]; exact hb1.trans ((Lib.bytesWorld_below w1 5 t).mono hb1.size)
  clear hw2
  have HB2 := Lib.hid hb2
  go_wp2_with fail
  refine (HLF.out w2 HB2.out).mono ?_
  rintro e w3 ⟨rfl, hb3⟩
  have HB3 := Lib.hid (HB2.out.trans (hb3.mono HB2.out.size))
  clear hb3
  by_cases hb0 : be = ⟨#[]⟩
  · subst hb0
    have hr := HR.out
    rw [if_pos rfl] at hr
    subst hr
    go_wp2_with fail
    go_ret
    exact ⟨rfl, HB3.out⟩
  · have hee := HEQ.out hb0
    have hr := HR.out
    rw [if_neg hb0] at hr
    subst hr
    go_wp2_with fail
    go_ret
    exact ⟨rfl, HB3.out⟩
end Go.Proofs.YtidadjlhnlmfkaaGreatDoor
