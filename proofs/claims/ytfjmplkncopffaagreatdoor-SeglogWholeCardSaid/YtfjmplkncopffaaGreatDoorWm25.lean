/- SlNumber SlNames. Conditions: as stated at each. -/
import Derived.Test.YtfjmplkncopffaaGreatDoorWm23
import Derived.Test.YtfjmplkncopffaaGreatDoorWm14
import Derived.Test.YtfjmplkncopffaaGreatDoorWm24
import Derived.BigQuiet
import Derived.Lib.AtoiErrMem
import Derived.Deep.QuietTactic
import Derived.Test.YtfjmplkncopffaaGreatDoorWm20
/- Which segment has the file of a name, of names of segments. Conditions: as stated at each. -/
namespace Go.Proofs.YtfjmplkncopffaaGreatDoor
open Go.RowKit Go.Shelf Go Go.Maps
theorem quiet_q {f : FuncId} {args : Array Value} {v : Value} (h : ∀ w, Calls Tryz.prog f args w fun e w' => e = .returned v ∧ w = w') (w : World) (n : Nat) :
    Calls Tryz.prog f args (w.drewN n) fun e w'' => e = .returned v ∧ ∃ m, w'' = w.drewN m := (h (w.drewN n)).mono fun _ _ ⟨h1, h2⟩ => ⟨h1, n, h2.symm⟩
theorem digs_val (j : Nat) (hj : j ≤ 999999) : Go.Lib.atoi (digs j) = some (j : Int) := by
  have m5 : ∀ n i, n / 10 ^ i % 10 < 10 := fun n i => Nat.mod_lt _ (by omega)
  have dv : ∀ d, d < 10 → Go.Lib.digitVal (UInt8.ofNat (48 + d)) = some d := fun d hd => by
    unfold Go.Lib.digitVal
    have e : (UInt8.ofNat (48 + d)).toNat = 48 + d := by simp; omega
    rw [e, if_pos (by omega)]
    congr 1
    omega
  have ne : ∀ d c, d < 10 → c < 48 → (UInt8.ofNat (48 + d) == UInt8.ofNat c) = false := fun d c hd hc => by
    rw [beq_eq_false_iff_ne]
    intro e
    have := congrArg UInt8.toNat e
    simp at this
    omega
  have step : ∀ acc d r, d < 10 → Go.Lib.decFrom acc (UInt8.ofNat (48 + d) :: r) = Go.Lib.decFrom (acc * 10 + d) r := fun acc d r hd => by
    rw [Go.Lib.decFrom, dv d hd]
  show Go.Lib.atoi (UInt8.ofNat (48 + j / 10 ^ 5 % 10) :: UInt8.ofNat (48 + j / 10 ^ 4 % 10) :: UInt8.ofNat (48 + j / 10 ^ 3 % 10) :: UInt8.ofNat (48 + j / 10 ^ 2 % 10) :: UInt8.ofNat (48 + j / 10 ^ 1 % 10) :: UInt8.ofNat (48 + j / 10 ^ 0 % 10) :: []) = _
  unfold Go.Lib.atoi
  rw [show ((45 : UInt8)) = UInt8.ofNat 45 from rfl, show ((43 : UInt8)) = UInt8.ofNat 43 from rfl]
  simp only [ne _ _ (m5 j 5) (show 45 < 48 by omega), ne _ _ (m5 j 5) (show 43 < 48 by omega), Bool.false_eq_true, if_false]
  unfold Go.Lib.decNat
  rw [if_neg (by simp), step _ _ _ (m5 j 5), step _ _ _ (m5 j 4), step _ _ _ (m5 j 3), step _ _ _ (m5 j 2), step _ _ _ (m5 j 1), step _ _ _ (m5 j 0)]
  simp only [Go.Lib.decFrom, Option.map_some, Option.some.injEq]
  simp only [show (10 : Nat) ^ 5 = 100000 from rfl, show (10 : Nat) ^ 4 = 10000 from rfl, show (10 : Nat) ^ 3 = 1000 from rfl, show (10 : Nat) ^ 2 = 100 from rfl, show (10 : Nat) ^ 1 = 10 from rfl, show (10 : Nat) ^ 0 = 1 from rfl]
  omega
theorem trimS_none (l : List UInt8) : Go.Lib.trimSuffix l [] = l := by
  unfold Go.Lib.trimSuffix
  split
  · simp
  · rfl
theorem trimS_new (nm : ByteArray) (j : Nat) : Go.Lib.trimSuffix (fileN nm j).data.toList [46, 110, 101, 119] = (fileN nm j).data.toList := by
  unfold Go.Lib.trimSuffix
  rw [if_neg]
  intro h
  unfold Go.Lib.hasSuffix at h
  have h := List.isSuffixOf_iff_suffix.1 h
  obtain ⟨t, ht⟩ := h
  rw [fileN_data] at ht
  have e : digs j = [UInt8.ofNat (48 + j / 10 ^ 5 % 10), UInt8.ofNat (48 + j / 10 ^ 4 % 10), UInt8.ofNat (48 + j / 10 ^ 3 % 10), UInt8.ofNat (48 + j / 10 ^ 2 % 10), UInt8.ofNat (48 + j / 10 ^ 1 % 10)] ++ [UInt8.ofNat (48 + j / 10 ^ 0 % 10)] := rfl
  rw [e, ← List.append_assoc, show t ++ [(46 : UInt8), 110, 101, 119] = (t ++ [46, 110, 101]) ++ [119] by simp] at ht
  have h2 := (List.append_inj' ht rfl).2
  injection h2 with h2 _
  have := congrArg UInt8.toNat h2
  have hm : j / 10 ^ 0 % 10 < 10 := Nat.mod_lt _ (by omega)
  simp at this
  omega
theorem trimP_file (nm : ByteArray) (j : Nat) : Go.Lib.trimPrefix (fileN nm j).data.toList (nm ++ ⟨#[46]⟩).data.toList = digs j := by
  have e : (nm ++ (⟨#[46]⟩ : ByteArray)).data.toList = nm.data.toList ++ [46] := by simp
  rw [fileN_data, e]
  unfold Go.Lib.trimPrefix Go.Lib.hasPrefix
  rw [if_pos (List.isPrefixOf_iff_prefix.2 ⟨_, rfl⟩), List.drop_left]
theorem str_dat (l : List UInt8) : (str l).data.toList = l := rfl
theorem ba_inj {a b : ByteArray} (h : a.data.toList = b.data.toList) : a = b := by
  cases a with
  | mk a => cases b with
    | mk b =>
      congr 1
      exact Array.toList_inj.1 h
theorem app_len (a b : ByteArray) : (a ++ b).toList.length = a.toList.length + b.size := by
  rw [Go.Lib.toList_data, Go.Lib.toList_data, ByteArray.data_append, Array.toList_append, List.length_append]
  rfl
theorem app_nil_ (a : ByteArray) : a ++ (⟨#[]⟩ : ByteArray) = a := by apply ByteArray.ext; simp
theorem ba_list (s : ByteArray) : (⟨s.data.toList.toArray⟩ : ByteArray) = s := by cases s; simp
theorem tS {nm : ByteArray} {j : Nat} {be : ByteArray} (hbe : be = ⟨#[]⟩ ∨ be = spareB) : (⟨(Go.Lib.trimSuffix (fileN nm j).data.toList be.data.toList).toArray⟩ : ByteArray) = fileN nm j := by
  rcases hbe with rfl | rfl
  · rw [show (⟨#[]⟩ : ByteArray).data.toList = [] from rfl, trimS_none]
  · rw [show spareB.data.toList = [46, 110, 101, 119] from rfl, trimS_new]
theorem tP (nm : ByteArray) (j : Nat) : (⟨(Go.Lib.trimPrefix (fileN nm j).data.toList (nm ++ (⟨#[46]⟩ : ByteArray)).data.toList).toArray⟩ : ByteArray) = str (digs j) := by rw [trimP_file]; rfl
theorem ts_call (w : World) (a b r : ByteArray) (hb : a.size ≤ 9223372036854775807) (h : (⟨(Go.Lib.trimSuffix a.data.toList b.data.toList).toArray⟩ : ByteArray) = r) : Calls Tryz.prog 93 #[.string a, .string b] w fun e w' => e = .returned (.string r) ∧ w = w' :=
  (Tryz.strings_TrimSuffix a b w hb).mono fun e w' ⟨h1, h2⟩ => ⟨by rw [h1, h], h2.symm⟩
theorem tp_call (w : World) (a b r : ByteArray) (h : (⟨(Go.Lib.trimPrefix a.data.toList b.data.toList).toArray⟩ : ByteArray) = r) : Calls Tryz.prog 92 #[.string a, .string b] w fun e w' => e = .returned (.string r) ∧ w = w' :=
  (Tryz.strings_TrimPrefix a b w).mono fun e w' ⟨h1, h2⟩ => ⟨by rw [h1, h], h2.symm⟩
set_option maxRecDepth 20000 in
set_option maxHeartbeats 800000 in
theorem number_any (W : World) (L Dk : Nat) (nm : ByteArray) (sz : Int) (G : Nat) (last : Int) (dead : Bool) (hL : LogB W L Dk nm sz G last dead) (hn : nm.size ≤ 1000000) (j : Nat) (hj : j ≤ 999999) (be : ByteArray) (hbe : be = ⟨#[]⟩ ∨ be = spareB) :
    Calls Tryz.prog 75 #[.pointer (some ⟨L, 0, none⟩), .string (fileN nm j), .string be] W fun e w' => e = .returned (.int .i64 (if be = ⟨#[]⟩ then (j : Int) else 0)) ∧ Below W.heap.size W w' := by
  have c1 := BlkIs.cell hL 1
  have hsz := fileN_size nm j
  have HTS : Hid (∀ w, Calls Tryz.prog 93 #[.string (fileN nm j), .string be] w fun e w' => e = .returned (.string (fileN nm j)) ∧ w = w') := Lib.hid fun w => ts_call w _ _ _ (by omega) (tS hbe)
  have HTP : Hid (∀ w, Calls Tryz.prog 92 #[.string (fileN nm j), .string (nm ++ ⟨#[46]⟩)] w fun e w' => e = .returned (.string (str (digs j))) ∧ w = w') := Lib.hid fun w => tp_call w _ _ _ (tP nm j)
  have HAT : Hid (∀ w, Calls Tryz.prog 94 #[.string (str (digs j))] w fun e w' => e = .returned (.tuple #[.int .i64 j, .nilIface]) ∧ ∃ t, w' = Lib.bytesWorld w 5 t) := Lib.hid fun w => Tryz.strconv_Atoi (str (digs j)) j (by show (digs j).length ≤ 18; rw [digs_length]; omega) (digs_val j hj) w
  have HLF : Hid (∀ w, Below W.heap.size W w → Calls Tryz.prog 30 #[.pointer (some ⟨L, 0, none⟩), .int .i64 j] w fun e w' => e = .returned (.string (fileN nm j)) ∧ Below w.heap.size w w') := Lib.hid fun w hw => lfile_any w L Dk nm sz G last dead j ((hw.block _ hL.lt).trans hL) hj hn
  have hcat : ¬ 9223372036854775807 < nm.size + 1 := by omega
  have hcat2 : ¬ 9223372036854775807 < (fileN nm j).size + be.size := by
    rcases hbe with rfl | rfl
    · show ¬ 9223372036854775807 < (fileN nm j).size + 0; omega
    · show ¬ 9223372036854775807 < (fileN nm j).size + 4; omega
  have HB : Hid (∀ t, Below W.heap.size W (Lib.bytesWorld W 5 t)) := Lib.hid fun t => Lib.bytesWorld_below W 5 t
  have hx0 : ∀ w (v u : Value), (Instr.extract (.tuple #[v, u]) 0).run Tryz.prog w = .ok v w := fun _ _ _ => by kernel_rfl
  have hx1 : ∀ w (v u : Value), (Instr.extract (.tuple #[v, u]) 1).run Tryz.prog w = .ok u w := fun _ _ _ => by kernel_rfl
  have hlen := app_len (fileN nm j) be
  have heqs : be ≠ ⟨#[]⟩ → ((fileN nm j ++ be).toList == (fileN nm j).toList) = false := fun hb => by
    rw [beq_eq_false_iff_ne]
    intro e
    rw [e] at hlen
    rcases hbe with h | h
    · exact hb h
    · rw [h] at hlen
      have : spareB.size = 4 := rfl
      omega
  have hemp := app_nil_ (fileN nm j)
  have HEQ := Lib.hid heqs
  obtain ⟨r, hr⟩ : ∃ r : Int, r = if be = ⟨#[]⟩ then (j : Int) else 0 := ⟨_, rfl⟩
  rw [← hr]
  have HR := Lib.hid hr
  clear hr
  clear hlen heqs
  generalize hfn : fileN nm j = fn at *
  generalize str (digs j) = ds at *
  clear hfn
  go_enter Tryz.func75, Tryz.ntmps75
  go_wp2_with fail
  go_quiet ((first | (go_at_call 93; exact quiet_q (fun w => HTS.out w) _ _) | (go_at_call 92; exact quiet_q (fun w => HTP.out w) _ _)))
  have hb1 := drewN_below W W.heap.size nq
  have c2 := (hb1.cell (p := ⟨L, 1, none⟩) hL.lt).trans c1
  have hL1 : LogB (W.drewN nq) L Dk nm sz G last dead := hL
  generalize W.drewN nq = w1 at *
  go_wp2_with fail
  refine (HAT.out w1).mono ?_
  rintro e w2 ⟨rfl, t, hw2⟩
  have hb2 : Below W.heap.size W w2 := by rw [hw2]; exact hb1.trans ((Lib.bytesWorld_below w1 5 t).mono hb1.size)
  clear hw2
  have HB2 := Lib.hid hb2
  go_wp2_with fail
  refine (HLF.out w2 HB2.out).mono ?_
  rintro e w3 ⟨rfl, hb3⟩
  have HB3 := Lib.hid (HB2.out.trans (hb3.mono HB2.out.size))
  clear hb3
  by_cases hb0 : be = ⟨#[]⟩
  · subst hb0
    have hr := HR.out
    rw [if_pos rfl] at hr
    subst hr
    go_wp2_with fail
    go_ret
    exact ⟨rfl, HB3.out⟩
  · have hee := HEQ.out hb0
    have hr := HR.out
    rw [if_neg hb0] at hr
    subst hr
    go_wp2_with fail
    go_ret
    exact ⟨rfl, HB3.out⟩
end Go.Proofs.YtfjmplkncopffaaGreatDoor
/- The disk's names at whatever files. Conditions: as stated at each. -/
namespace Go.Proofs.YtfjmplkncopffaaGreatDoor
open Go.RowKit Go.Shelf Go Go.Maps Go.Sort
theorem has_of_at {D : DataW Value} {s : ByteArray} {u : Value} (ha : at_ D s = some u) : has D (kOf s) = true := by
  cases hh : has D (kOf s) with
  | true => rfl
  | false =>
    have := atKey_of_not_has hh (.nil : DataW Value)
    unfold at_ at ha
    rw [this] at ha
    cases ha
/-- the names, rising, each once. -/
def NamesOf (F : Files) (ns : List ByteArray) : Prop := ns.Nodup ∧ (∀ s, s ∈ ns ↔ F s ≠ none) ∧ ns.Pairwise (fun a b => a.data.toList ≤ b.data.toList) ∧ ∀ s ∈ ns, s.size ≤ maxLen
def toBA (l : List UInt8) : ByteArray := ⟨l.toArray⟩
theorem toBA_inj {a b : List UInt8} (h : toBA a = toBA b) : a = b := by
  unfold toBA at h
  injection h with h
  simpa using h
theorem toBA_list (s : ByteArray) : toBA s.data.toList = s := by unfold toBA; simp
theorem strKeys_mem {W : World} {M k : Nat} {D : DataW Value} (h : MapIs W M k D) (l : List UInt8) : l ∈ strKeys D ↔ has D (.string l) = true := by
  obtain ⟨es, rfl, hko⟩ := World.ownsMap.keysOf h
  rw [has_eq, List.any_eq_true]
  show l ∈ es.map (fun p => strOf p.1) ↔ _
  rw [List.mem_map]
  constructor
  · rintro ⟨p, hp, rfl⟩
    obtain ⟨v, hv⟩ := hko p hp
    obtain ⟨y, _, hy, _⟩ := Maps.keyOf_str Tryz.underlying9 hv
    exact ⟨p, hp, by rw [hy]; simp [Lit.sameKey, strOf]⟩
  · rintro ⟨p, hp, hs⟩
    obtain ⟨v, hv⟩ := hko p hp
    obtain ⟨y, _, hy, _⟩ := Maps.keyOf_str Tryz.underlying9 hv
    rw [hy] at hs
    exact ⟨p, hp, by rw [hy]; simpa [Lit.sameKey, strOf] using hs⟩
theorem strKeys_nodup {W : World} {M k : Nat} {D : DataW Value} (h : MapIs W M k D) : (strKeys D).Nodup := by
  obtain ⟨es, hD, hpw, _⟩ := World.ownsMap.entries h (string_keyed Tryz.underlying9)
  obtain ⟨es', hD', hko⟩ := World.ownsMap.keysOf h
  obtain rfl : es = es' := by rw [hD] at hD'; simpa using hD'
  subst hD
  show (es.map fun p => strOf p.1).Nodup
  refine List.pairwise_map.2 (hpw.imp_of_mem fun {p q} hp' hq' hne e => hne ?_)
  obtain ⟨v, hv⟩ := hko p hp'
  obtain ⟨a, _, ha, _⟩ := Maps.keyOf_str Tryz.underlying9 hv
  obtain ⟨v', hv'⟩ := hko q hq'
  obtain ⟨b, _, hb, _⟩ := Maps.keyOf_str Tryz.underlying9 hv'
  rw [ha, hb] at e ⊢
  have e : a = b := e
  rw [e]
theorem namesOf_keys {W : World} {N M k : Nat} {Ft : Nat → Prop} {D : DataW Value} {F : Files} (h : MapIs W M k D) (hF : FilesIs W N Ft D F) (ss : List (List UInt8)) (hp : ss.Perm (strKeys D)) :
    NamesOf F ((ss.mergeSort (fun x y => decide (x ≤ y))).map toBA) := by
  have hp2 : (ss.mergeSort (fun x y => decide (x ≤ y))).Perm (strKeys D) := (List.mergeSort_perm _ _).trans hp
  have hle := strKeys_le h Tryz.underlying9
  refine ⟨?_, fun s => ?_, ?_, fun s hs => ?_⟩
  · refine List.pairwise_map.2 (((hp2.nodup_iff).2 (strKeys_nodup h)).imp fun hne e => hne (toBA_inj e))
  · rw [List.mem_map]
    constructor
    · rintro ⟨l, hl, rfl⟩ hn
      have hk := (hp2.mem_iff).1 hl
      have hh := (strKeys_mem h l).1 hk
      have hf := held_has (s := toBA l) h Tryz.underlying9 Tryz.underlying53 (by have := hle l hk; show l.toArray.size ≤ maxLen; simpa using this) (zero58 W) (hF.1 _ hn)
      have e : kOf (toBA l) = .string l := by unfold kOf toBA; simp
      rw [e, hh] at hf
      cases hf
    · intro hn
      cases hfs : F s with
      | none => exact absurd hfs hn
      | some y =>
        obtain ⟨bs, z⟩ := y
        obtain ⟨a, c, e1, _⟩ := hF.2.1 s bs z hfs
        have hh := has_of_at e1
        exact ⟨s.data.toList, (hp2.mem_iff).2 ((strKeys_mem h _).2 hh), toBA_list s⟩
  · rw [List.pairwise_map]
    have tr : ∀ a b c : List UInt8, decide (a ≤ b) = true → decide (b ≤ c) = true → decide (a ≤ c) = true := fun a b c h1 h2 => by
      simp only [decide_eq_true_eq] at *
      exact List.le_trans h1 h2
    have to : ∀ a b : List UInt8, (decide (a ≤ b) || decide (b ≤ a)) = true := fun a b => by
      simp only [Bool.or_eq_true, decide_eq_true_eq]
      exact List.le_total a b
    exact (List.pairwise_mergeSort tr to ss).imp fun h => by
      have := of_decide_eq_true h
      simpa [toBA] using this
  · rw [List.mem_map] at hs
    obtain ⟨l, hl, rfl⟩ := hs
    have := hle l ((hp2.mem_iff).1 hl)
    show l.toArray.size ≤ maxLen
    simpa using this
set_option maxHeartbeats 1000000 in
set_option maxRecDepth 20000 in
theorem dnames_any (W : World) (N : Nat) (Ft : Nat → Prop) (Dk k : Nat) (F : Files) (rm x lf : Int) (b : Bool) (hS : DiskS W N Ft Dk k F rm x lf b) (hk : k ≤ 1000000) :
    Calls Tryz.prog 33 #[.pointer (some ⟨Dk, 0, none⟩)] W fun e w' => ∃ V sv ns, e = .returned (.func (.func 80) #[] #[.pointer (some ⟨V, 0, none⟩)]) ∧ W.heap.size ≤ V ∧ V < w'.heap.size ∧ w'.cell? ⟨V, 0, none⟩ = some sv ∧ HasS w'.heap.size w' sv ns ∧ NamesOf F ns ∧ ns.length ≤ k ∧ Below W.heap.size W w' := by
  obtain ⟨M, D, hD, hM, f1, f2, hFi⟩ := hS
  have hsk : Maps.size D ≤ k := World.ownsMap.size_le hM
  have hso := Lib.hid (sorted60_any M k D rh W hM (by omega))
  have c0 := hD.cell 0
  go_enter Tryz.func33, Tryz.ntmps33
  go_wp2_with (go_at_call 61; refine (keys61_any _ _).mono ?_; rintro e w' ⟨rfl, rfl⟩)
  refine hso.out.mono ?_
  rintro e w1 ⟨v, ss, rfl, hS, hrow, hnil, hbl⟩
  have hns := namesOf_keys hM hFi ss hS
  have hlen : ss.length ≤ k := by rw [hS.length_eq, ← size_strs]; exact hsk
  have hml : ((ss.mergeSort (fun x y => decide (x ≤ y))).map toBA).length = ss.length := by simp
  have hrow' : w1.ownsRow (W.alloc (.cells #[.map (some M)] 53)).heap.size 9 1 v ss.length (((ss.mergeSort (fun x y => decide (x ≤ y))).map toBA).map Value.string) := by
    rw [List.map_map]
    exact hrow
  have hhas := has_of_own_S hrow' hml.symm
  obtain ⟨A, cc, rfl, _, _⟩ := own_slice hrow
  have hb1 : Below W.heap.size W w1 := ((Below.refl _ W).alloc (Nat.le_refl _) _).trans (hbl.mono (by simp))
  generalize (ss.mergeSort (fun x y => decide (x ≤ y))).map toBA = ns at *
  have HH := Lib.hid hhas
  have HB := Lib.hid hb1
  have HN := Lib.hid hns
  clear hrow hrow' hnil hbl hS hhas hb1 hso hns
  go_wp2_with (go_at_call 59; refine (values_S _ _ _ _).mono ?_; rintro e w' ⟨rfl, rfl⟩)
  go_ret
  have hz := HB.out.size
  have hal := (Below.refl w1.heap.size w1).alloc (Nat.le_refl _) (.cells #[.slice A ss.length cc] 94)
  refine ⟨w1.heap.size, _, ns, rfl, hz, by simp, (BlkIs.new w1 94 _).cell 0, ?_, HN.out, by omega, HB.out.alloc hz _⟩
  rcases HH.out.below hal with h | ⟨b, off, cap, h1, h2, h3⟩
  · exact .inl h
  · exact .inr ⟨b, off, cap, h1, by simp; omega, h3⟩
set_option maxHeartbeats 1000000 in
set_option maxRecDepth 20000 in
theorem names_any (W : World) (N : Nat) (Ft : Nat → Prop) (Dk k : Nat) (F : Files) (rm x lf : Int) (hS : DiskS W N Ft Dk k F rm x lf false) (hk : k ≤ 1000000) :
    Calls Tryz.prog 74 #[.pointer (some ⟨Dk, 0, none⟩)] W fun e w' => ∃ A c ns, e = .returned (.slice A ns.length c) ∧ w'.ownsRow W.heap.size 9 1 (.slice A ns.length c) ns.length (ns.map Value.string) ∧ NamesOf F ns ∧ ns.length ≤ k ∧ Below W.heap.size W w' := by
  have hd := Lib.hid (down_S W N Ft Dk k F rm x lf false hS)
  have hn := Lib.hid (dnames_any W N Ft Dk k F rm x lf false hS hk)
  go_enter Tryz.func74, Tryz.ntmps74
  go_wp2_with (go_at_call 20; refine hd.out.mono ?_; rintro e w' ⟨rfl, rfl⟩)
  refine hn.out.mono ?_
  rintro e w1 ⟨V, sv, ns, rfl, h0, h1, h2, hH, hN, hl, h3⟩
  have hc := Lib.hid (collect_S w1 V _ ns (by omega) h1 h2 hH)
  go_wp2_with fail
  refine hc.out.mono ?_
  rintro e w2 ⟨v, rfl, h4, h5⟩
  obtain ⟨A, cc, rfl, _, _⟩ := own_slice h4
  have h6 := Lib.hid h4
  clear h4
  go_wp2_with fail
  go_ret
  exact ⟨A, cc, ns, rfl, own_more h6.out h3.size, hN, hl, h3.trans (h5.mono h3.size)⟩
end Go.Proofs.YtfjmplkncopffaaGreatDoor
