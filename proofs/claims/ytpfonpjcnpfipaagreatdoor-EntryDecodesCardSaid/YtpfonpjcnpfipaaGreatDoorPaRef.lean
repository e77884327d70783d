/- The document's last, parts. Conditions: as stated at each. -/
import Derived.Test.YtpfonpjcnpfipaaGreatDoorPaAtom
namespace Go.Proofs.YtpfonpjcnpfipaaGreatDoor
set_option maxRecDepth 100000
namespace Pa
open Go.RowKit Go
theorem last_step (l : List UInt8) (k : Nat) (h : k < l.length) : Go.Lib.lastIdx (str l) 64 (k + 1) = if l.getD k 0 = 64 then (k : Int) else Go.Lib.lastIdx (str l) 64 k := by
  have e : ((str l).data[k]!) = l.getD k 0 := str_get h
  have to64 : ((l.getD k 0).toNat : Int) = 64 ↔ l.getD k 0 = 64 := by
    rw [← UInt8.toNat_inj]
    show ((l.getD k 0).toNat : Int) = 64 ↔ (l.getD k 0).toNat = 64
    omega
  by_cases h1 : l.getD k 0 = 64
  · rw [Go.Lib.lastIdx_hit _ _ _ (by rw [e, to64]; exact h1), if_pos h1]
  · rw [Go.Lib.lastIdx_miss _ _ _ (by rw [e, Ne, to64]; exact h1), if_neg h1]
theorem last_full (l : List UInt8) : Go.Lib.lastIdx (str l) 64 l.length = lastI l := by
  unfold lastI Go.Lib.lastIndexByte
  rw [str_size]
theorem ret_int {a b : Int} (h : a = b) : Ending.returned (.int .i64 a) = .returned (.int .i64 b) := by rw [h]
set_option maxHeartbeats 800000 in
theorem rlast_any (l : List UInt8) (w : World) (hl : l.length ≤ 140737488355328) :
    Calls Tryz.prog 76 #[.string (str l), .int .u8 64] w fun e w' => e = .returned (.int .i64 (lastI l)) ∧ w = w' := by
  have hsz := str_size l
  have HAT := Lib.hid (str_at l)
  have HST := Lib.hid (last_step l)
  have HFU := Lib.hid (last_full l)
  have HL0 : Hid (Go.Lib.lastIdx (str l) 64 0 = -1) := Lib.hid rfl
  generalize lastI l = r at *
  generalize Go.Lib.lastIdx (str l) 64 = L at *
  generalize str l = s at *
  have HSZ := Lib.hid hsz
  go_enter Tryz.func76, Tryz.ntmps76
  go_wp2_with fail
  go_loop [5] (fun i => ∃ k : Nat, k ≤ l.length ∧ i = .int .i64 ((k : Int) - 1) ∧ L k = r) (fun i => (intOf i + 1).toNat)
  case atStart => exact ⟨l.length, Nat.le_refl _, rfl, HFU.out⟩
  case round =>
    obtain ⟨k, hk, rfl, ha⟩ := hrel
    have HA := Lib.hid ha
    clear ha
    cases k with
    | zero =>
      go_wp2_with fail
      go_ret
      exact ⟨ret_int (show (-1 : Int) = r by rw [← HA.out, HL0.out]), rfl⟩
    | succ k =>
      have hlt : k < s.size := by omega
      have hc := HAT.out k hlt
      have HS := Lib.hid (HST.out k (by omega))
      have e1 : ((k + 1 : Nat) : Int) - 1 = (k : Int) := by omega
      rw [e1]
      have h0 : 0 ≤ (k : Int) := by omega
      generalize l.getD k 0 = c at *
      by_cases h64 : c = 64
      · have h64' : ((c.toNat : Int) == 64) = true := by rw [h64]; rfl
        go_wp2_with fail
        go_ret
        exact ⟨ret_int (show (k : Int) = r by rw [← HA.out, HS.out, if_pos h64]), rfl⟩
      · have h64' : ((c.toNat : Int) == 64) = false := by
          rw [beq_eq_false_iff_ne]; intro e; exact h64 (UInt8.toNat_inj.1 (show c.toNat = 64 by omega))
        have HN := Lib.hid h64
        clear h64
        go_wp2_with fail
        go_round
        case rel => exact ⟨k, by omega, by go_num, by rw [← HA.out, HS.out, if_neg HN.out]⟩
        case measure => simp [intOf]
/-- texts as cells. -/
def tv (ps : List (List UInt8)) : List Value := ps.map fun p => Value.string (str p)
theorem tv_length (ps : List (List UInt8)) : (tv ps).length = ps.length := by simp [tv]
theorem tv_one (ps : List (List UInt8)) : ∀ u ∈ tv ps, u.oneCell' = true := by
  intro u hu
  simp only [tv, List.mem_map] at hu
  obtain ⟨b, _, rfl⟩ := hu
  rfl
theorem info9 : (Tryz.prog.info? 9).map (fun i => (i.zero, i.size, i.bytes)) = some (some (.string ⟨#[]⟩), 1, 16) := by kernel_rfl
/-- one text more. -/
theorem appT {w : World} {ops : Array Oper} {rest : List Oper} {o : Oper} {a : Act} {Q : Exit → Act → World → Prop} (s x : Operand)
    (ho : o.op = .call { callee := .builtin .append, args := #[s, x], argTypes := #[24, 24] }) (hgd : o.guard = none)
    (N : Nat) (v : Value) (ps : List (List UInt8)) (p : List UInt8) (hs : a.eval s = v) (hown : w.ownsRow N 9 1 v ps.length (tv ps))
    (g c : Nat) (hx : a.eval x = .slice (some ⟨g, 0, none⟩) 1 c) (hc : w.cell? ⟨g, 0, none⟩ = some (.string (str p))) (hg : g < w.heap.size) (h63 : ps.length + 1 ≤ 1000000000) (hN : N ≤ w.heap.size)
    (h : ∀ v' w', w'.ownsRow N 9 1 v' (ps ++ [p]).length (tv (ps ++ [p])) → w.grownBy w' v.ownBlock → wpList Tryz.prog ops Q rest (a.put o.dst v') w') : wpList Tryz.prog ops Q (o :: rest) a w := by
  obtain ⟨i, hi, hz, h0, h1⟩ := info_parts info9
  have hr : Cs w w.heap.size (some ⟨g, 0, none⟩) (tv [p]) := fun j u hj => by
    have hj0 : j = 0 := by
      have := (List.getElem?_eq_some_iff.1 hj).1
      rw [tv_length] at this
      simpa using this
    subst hj0
    have hu : u = .string (str p) := by simpa [tv] using hj.symm
    subst hu
    exact ⟨_, rfl, hg, by simpa [Addr.add] using hc⟩
  refine wpList_plain hgd fun _ hK => wp_app s x ho Tryz.underlying24 hi hz h0 h1 rfl hs hown hx hr (by rw [tv_length]; rfl) (tv_one [p]) h63 (by decide) hN fun v' w' h2 h3 => hK _ _ (h v' w' ?_ h3)
  rw [List.length_append, show tv (ps ++ [p]) = tv ps ++ tv [p] by simp [tv]]
  exact h2
/-- between two rounds of parts: i bytes are read, the part under way begins at a. -/
structure PtSt (l : List UInt8) (a i : Nat) (done : List (List UInt8)) : Prop where
  le : a ≤ i
  le' : i ≤ l.length + 1
  end_ : i = l.length + 1 → done = parts l
  way : i ≤ l.length → (46 : UInt8) ∉ (l.drop a).take (i - a) ∧ done ++ parts (l.drop a) = parts l
theorem PtSt.init (l : List UInt8) : PtSt l 0 0 [] := ⟨by omega, by omega, fun h => by omega, fun _ => ⟨by simp, by simp⟩⟩
theorem drop_cut {l : List UInt8} {a i : Nat} (h1 : a ≤ i) (h2 : i < l.length) : l.drop a = (l.drop a).take (i - a) ++ l.getD i 0 :: l.drop (i + 1) := by
  have e : (l.drop a).drop (i - a) = l.getD i 0 :: l.drop (i + 1) := by
    rw [List.drop_drop, show a + (i - a) = i by omega, List.drop_eq_getElem_cons h2]
    simp [List.getD, h2]
  rw [← e, List.take_append_drop]
theorem PtSt.last {l : List UInt8} {a i : Nat} {done : List (List UInt8)} (h : PtSt l a i done) (hi : i = l.length) : PtSt l (i + 1) (i + 1) (done ++ [(l.drop a).take (i - a)]) := by
  obtain ⟨h1, h2⟩ := h.way (by omega)
  have e : (l.drop a).take (i - a) = l.drop a := List.take_of_length_le (by rw [List.length_drop]; omega)
  refine ⟨by omega, by omega, fun _ => ?_, fun h => by omega⟩
  rw [e] at h1 ⊢
  rw [parts_no h1] at h2
  exact h2
theorem PtSt.point {l : List UInt8} {a i : Nat} {done : List (List UInt8)} (h : PtSt l a i done) (hi : i < l.length) (hp : l.getD i 0 = 46) : PtSt l (i + 1) (i + 1) (done ++ [(l.drop a).take (i - a)]) := by
  obtain ⟨h1, h2⟩ := h.way (by omega)
  refine ⟨by omega, by omega, fun h => by omega, fun _ => ⟨by simp, ?_⟩⟩
  rw [drop_cut h.le hi, hp, parts_at h1] at h2
  rw [List.append_assoc]
  exact h2
theorem PtSt.other {l : List UInt8} {a i : Nat} {done : List (List UInt8)} (h : PtSt l a i done) (hi : i < l.length) (hp : l.getD i 0 ≠ 46) : PtSt l a (i + 1) done := by
  obtain ⟨h1, h2⟩ := h.way (by omega)
  refine ⟨by have := h.le; omega, by omega, fun h => by omega, fun _ => ⟨?_, h2⟩⟩
  have hle := h.le
  have e : (l.drop a).take (i + 1 - a) = (l.drop a).take (i - a) ++ [l.getD i 0] := by
    rw [show i + 1 - a = (i - a) + 1 by omega, List.take_succ_eq_append_getElem (by rw [List.length_drop]; omega)]
    congr 2
    rw [List.getElem_drop]
    simp [List.getD, show a + (i - a) = i by omega, hi]
  rw [e, List.mem_append, not_or]
  exact ⟨h1, by rw [List.mem_singleton]; exact Ne.symm hp⟩
theorem belowA (w : World) (o : Obj) : Below w.heap.size w (w.alloc o) := (Below.refl _ w).alloc (Nat.le_refl _) _
set_option maxHeartbeats 1600000 in
theorem rparts_any (l : List UInt8) (W : World) (hl : l.length ≤ 1000000) :
    Calls Tryz.prog 78 #[.string (str l)] W fun e w' => ∃ v, e = .returned v ∧ w'.ownsRow W.heap.size 9 1 v (parts l).length (tv (parts l)) ∧ Below W.heap.size W w' := by
  have hsz := str_size l
  have HAT := Lib.hid (str_at l)
  have HEX := Lib.hid (str_extract l)
  generalize str l = s at *
  have HSZ := Lib.hid hsz
  go_enter Tryz.func78, Tryz.ntmps78
  go_wp2_with fail
  go_loopw [3, 4, 5] (fun x y z wr => ∃ (a i : Nat) (done : List (List UInt8)), y = .int .i64 a ∧ z = .int .i64 i ∧ PtSt l a i done ∧ done.length ≤ i ∧ wr.ownsRow W.heap.size 9 1 x done.length (tv done) ∧ Below W.heap.size W wr) (fun _ _ z _ => l.length + 1 - (intOf z).toNat)
  case atStart => exact ⟨0, 0, [], rfl, rfl, PtSt.init l, by simp, World.ownsRow_nil _ _ _ _, Below.refl _ _⟩
  case round =>
    obtain ⟨a, i, done, rfl, rfl, hst, hdl, hown, hbel⟩ := hrel
    have HST := Lib.hid hst
    have HB := Lib.hid hbel
    have h1 := hst.le
    have h2 := hst.le'
    have hws := hbel.size
    have HOW := Lib.hid hown
    obtain ⟨A, c, rfl, hc1, hc2⟩ := own_slice hown
    clear hst hbel hown
    have hx : Hid (∀ (p : List UInt8), (wr.alloc (.cells #[.string (str p)] 9)).cell? ⟨wr.heap.size, 0, none⟩ = some (.string (str p))) := Lib.hid fun p => (cell_of_row _ wr.heap.size 0 #[.string (str p)] 9 (0, 0) (heap_alloc_new wr _)).trans rfl
    have hal : Hid (∀ o, (wr.alloc o).ownsRow W.heap.size 9 1 (.slice A done.length c) done.length (tv done)) := Lib.hid fun o => own_kept HOW.out (belowA wr o) (Nat.le_refl _)
    by_cases hi : i ≤ l.length
    · by_cases he : i = l.length
      · have HE := Lib.hid he
        have hei : ((i : Int) == (l.length : Int)) = true := by rw [he]; simp
        have hlen : s.size = i := by rw [hsz]; exact he.symm
        have HN := Lib.hid (HST.out.last he)
        have hext := HEX.out a i
        generalize (l.drop a).take (i - a) = p at *
        clear he
        go_wp2_with (first
          | (refine appT (.tmp 22) (.tmp 27) rfl rfl W.heap.size _ done p rfl (hal.out _) wr.heap.size 1 rfl (hx.out p) (by simp) (by omega) (by simp; omega) ?_; intro v2 w2 ho2 hg2)
          | fail)
        exact ⟨⟨i + 1, i + 1, _, rfl, rfl, HN.out, by simp; omega, ho2, HB.out.trans ((((belowA wr _).mono (by omega))).grown hg2 (by simp; omega) (fun k hk => (HOW.out.lt k hk).1))⟩, by simp [intOf]; omega⟩
      · have hi2 : i < l.length := by omega
        have hei : ((i : Int) == (l.length : Int)) = false := by rw [beq_eq_false_iff_ne]; omega
        have hlt : i < s.size := by omega
        have hc := HAT.out i hlt
        by_cases hp : l.getD i 0 = 46
        · have HN := Lib.hid (HST.out.point hi2 hp)
          have hext := HEX.out a i
          generalize (l.drop a).take (i - a) = p at *
          rw [hp] at hc
          clear hp he
          go_wp2_with (first
            | (refine appT (.tmp 22) (.tmp 27) rfl rfl W.heap.size _ done p rfl (hal.out _) wr.heap.size 1 rfl (hx.out p) (by simp) (by omega) (by simp; omega) ?_; intro v2 w2 ho2 hg2)
            | fail)
          exact ⟨⟨i + 1, i + 1, _, rfl, rfl, HN.out, by simp; omega, ho2, HB.out.trans ((((belowA wr _).mono (by omega))).grown hg2 (by simp; omega) (fun k hk => (HOW.out.lt k hk).1))⟩, by simp [intOf]; omega⟩
        · have HN := Lib.hid (HST.out.other hi2 hp)
          have hne : (((l.getD i 0).toNat : Int) == 46) = false := by
            rw [beq_eq_false_iff_ne]; intro e; exact hp (UInt8.toNat_inj.1 (show (l.getD i 0).toNat = 46 by omega))
          generalize l.getD i 0 = cc at *
          clear hp he
          go_wp2_with fail
          exact ⟨⟨a, i + 1, done, rfl, rfl, HN.out, by omega, HOW.out, HB.out⟩, by simp [intOf]; omega⟩
    · have HE := Lib.hid (HST.out.end_ (by omega))
      go_wp2_with fail
      go_ret
      exact ⟨_, rfl, by rw [← HE.out]; exact HOW.out, HB.out⟩
end Pa
end Go.Proofs.YtpfonpjcnpfipaaGreatDoor
