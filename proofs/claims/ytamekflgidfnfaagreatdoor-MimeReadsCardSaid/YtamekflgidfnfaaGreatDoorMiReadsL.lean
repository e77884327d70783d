/- The document's after. Conditions: as stated. -/
import Derived.Test.YtamekflgidfnfaaGreatDoorMiRIn
import Derived.OwnWalk
import Derived.Deep.QuietTactic
import Derived.Test.YtamekflgidfnfaaGreatDoorMiRd
import Derived.Test.YtamekflgidfnfaaGreatDoorMiRNum
import Derived.Test.YtamekflgidfnfaaGreatDoorMiReptN
import Derived.Deep.CutBlock
import Derived.Test.YtamekflgidfnfaaGreatDoorMiSame
import Derived.Test.YtamekflgidfnfaaGreatDoorMiAwake
namespace Go.Proofs.YtamekflgidfnfaaGreatDoor
set_option maxRecDepth 100000
namespace Mi
open Go.RowKit Go Go.Proofs.YtamekflgidfnfaaGreatDoor.Pa
/-- what after answers. -/
def AftQ (what s : L) (w : World) (e : Ending) (w' : World) : Prop :=
  Below w.heap.size w w' ∧ ((afterS what s = none ∧ ∃ t, e = .returned (.tuple #[.string ⟨#[]⟩, .string t, .bool false])) ∨ ∃ a t, afterS what s = some (a, t) ∧ a.length + t.length ≤ s.length ∧ e = .returned (.tuple #[.string (str a), .string (str t), .bool true]))
theorem aft_no {what s : L} (h : what.isPrefixOf s = false) : afterS what s = none := by
  unfold afterS
  rw [h]
  rfl
theorem aft_yes {what s : L} (h : what.isPrefixOf s = true) : afterS what s = cutCR (s.drop what.length) := by
  unfold afterS
  rw [h]
  rfl
set_option maxHeartbeats 1600000 in
theorem rafter_any (s what : L) (w : World) (hs : s.length ≤ 1000000) (hw : what.length ≤ 1000000) :
    Calls Tryz.prog 25 #[.string (str s), .string (str what)] w (AftQ what s w) := by
  have hsz := str_size s
  have hwz := str_size what
  have heq : (((str s).extract 0 what.length).toList == (str what).toList) = what.isPrefixOf s := by
    rw [str_extract, Nat.sub_zero, Go.Lib.toList_data, Go.Lib.toList_data, pre_take, str_data, str_data, List.drop_zero]
  have HD : Hid ((str s).extract what.length s.length = str (s.drop what.length)) := Lib.hid (by rw [str_extract, List.take_of_length_le (by rw [List.length_drop]; omega)])
  have HIN := Lib.hid (fun w => rin_any (s.drop what.length) cr w (by rw [List.length_drop]; omega) (by decide) (by decide))
  have hdz := str_size (s.drop what.length)
  have hdl : (s.drop what.length).length = s.length - what.length := List.length_drop
  unfold AftQ
  by_cases hle : what.length ≤ s.length
  · cases hp : what.isPrefixOf s with
    | false =>
      have HN := Lib.hid (aft_no hp)
      rw [hp] at heq
      clear hp HIN HD hdz hdl
      generalize str s = sb at *
      generalize str what = ss at *
      generalize s.length = m at *
      generalize what.length = n at *
      go_enter Tryz.func25, Tryz.ntmps25
      go_wp2_with fail
      refine bodyPost_ret (results_tmp3 rfl _ _ _) rfl ?_
      exact ⟨Below.refl _ _, .inl ⟨HN.out, _, rfl⟩⟩
    | true =>
      have HY := Lib.hid (aft_yes hp)
      have HEX : Hid (∀ k, (str (s.drop what.length)).extract 0 k = str ((s.drop what.length).take k)) := Lib.hid fun k => by rw [str_extract, List.drop_zero, Nat.sub_zero]
      have HEY : Hid (∀ k, (str (s.drop what.length)).extract k (s.drop what.length).length = str ((s.drop what.length).drop k)) := Lib.hid fun k => by rw [str_extract, List.take_of_length_le (Nat.le_of_eq List.length_drop)]
      rw [hp] at heq
      clear hp
      generalize hd : s.drop what.length = d at *
      have HDD := Lib.hid hd
      clear hd
      have hx := HD.out
      generalize str d = sd at *
      generalize str s = sb at *
      generalize str what = ss at *
      generalize hm : s.length = m at *
      generalize hn : what.length = n at *
      generalize hdn : d.length = dn at *
      have HM := Lib.hid hm
      have HN := Lib.hid hn
      have HDN := Lib.hid hdn
      clear hm hn hdn HD
      have hi0 := HIN.out w
      go_enter Tryz.func25, Tryz.ntmps25
      go_wp2_with fail
      refine hi0.mono ?_
      rintro e w' ⟨rfl, i, rfl, hI⟩
      rcases idx_cut hI with ⟨k, rfl, hk, hc⟩ | ⟨rfl, hc⟩
      · have hk2 : k + 2 ≤ dn := by rw [← HDN.out]; exact hk
        have e1 := HEX.out k
        have e2 := HEY.out (k + 2)
        have HC := Lib.hid hc
        have zk : (0 : Int) ≤ (k : Int) := by omega
        clear hI hc hk
        go_wp2_with fail
        go_quiet (fail)
        go_wp2_with fail
        refine bodyPost_ret (results_tmp3 rfl _ _ _) rfl ?_
        exact ⟨drewN_below _ _ _, .inr ⟨_, _, HY.out.trans HC.out, by simp only [List.length_take, List.length_drop]; have := HDN.out; omega, by have e3 : sd.extract (k + 2) (m - n) = str (d.drop (k + 2)) := (by rw [← hdl]; exact e2); simp [e3]⟩⟩
      · have HC := Lib.hid hc
        clear hI hc
        go_wp2_with fail
        refine bodyPost_ret (results_tmp3 rfl _ _ _) rfl ?_
        exact ⟨Below.refl _ _, .inl ⟨HY.out.trans HC.out, _, rfl⟩⟩
  · have hp : what.isPrefixOf s = false := pre_short (by omega)
    have HN := Lib.hid (aft_no hp)
    have hlt : (s.length : Int) < (what.length : Int) := by omega
    clear hp HIN HD hdz hdl heq
    generalize str s = sb at *
    generalize str what = ss at *
    generalize s.length = m at *
    generalize what.length = n at *
    go_enter Tryz.func25, Tryz.ntmps25
    go_wp2_with fail
    refine bodyPost_ret (results_tmp3 rfl _ _ _) rfl ?_
    exact ⟨Below.refl _ _, .inl ⟨HN.out, _, rfl⟩⟩
end Mi
end Go.Proofs.YtamekflgidfnfaaGreatDoor
namespace Go.Proofs.YtamekflgidfnfaaGreatDoor
set_option maxRecDepth 100000
namespace Mi
open Go.Proofs.YtamekflgidfnfaaGreatDoor.Pa
theorem no_1 {r : L} (h1 : afterS seg0 r = none) : readS r = none := by
  unfold readS candS
  rw [h1]
theorem no_2 {r n s1 : L} (h1 : afterS seg0 r = some (n, s1)) (h2 : afterS (seg1 ++ n) s1 = none) : readS r = none := by
  unfold readS candS
  rw [h1]
  simp only
  rw [h2]
theorem no_3 {r n s1 x s2 : L} (h1 : afterS seg0 r = some (n, s1)) (h2 : afterS (seg1 ++ n) s1 = some (x, s2)) (h3 : afterS seg2 s2 = none) : readS r = none := by
  unfold readS candS
  rw [h1]
  simp only
  rw [h2]
  simp only
  rw [h3]
/-- what is found of a candidate. -/
theorem cand_some {r n s1 x s2 f s3 : L} {ps : List L} {v : Int} (h1 : afterS seg0 r = some (n, s1)) (h2 : afterS (seg1 ++ n) s1 = some (x, s2)) (h3 : afterS seg2 s2 = some (f, s3))
    (hT : ∀ a s4, afterS seg3 s3 = some (a, s4) → ∀ u, Mb.numS a = some u → ps = rcpS 101 s4 ∧ v = (u : Int)) {c : Env × L × L} (hc : candS r = some c) :
    (headS (f, ps, v) n).length + (tailS n).length ≤ r.length ∧ c = ((f, ps, v), n, (r.drop (headS (f, ps, v) n).length).take (r.length - (tailS n).length - (headS (f, ps, v) n).length)) := by
  unfold candS at hc
  rw [h1] at hc
  simp only at hc
  rw [h2] at hc
  simp only at hc
  rw [h3] at hc
  simp only at hc
  cases h4 : afterS seg3 s3 with
  | none => rw [h4] at hc; cases hc
  | some q =>
    obtain ⟨a, s4⟩ := q
    rw [h4] at hc
    simp only at hc
    cases h5 : Mb.numS a with
    | none => rw [h5] at hc; cases hc
    | some u =>
      rw [h5] at hc
      obtain ⟨rfl, rfl⟩ := hT a s4 h4 u h5
      simp only at hc
      split at hc
      · rename_i hl
        injection hc with hc
        exact ⟨hl, hc.symm⟩
      · cases hc
theorem read_cand {r : L} {e : Env} {b : L} (h : readS r = some (e, b)) : candS r = some (e, bndS b, b) ∧ errS e b = 0 ∧ repS e b = r := by
  obtain ⟨h1, h2⟩ := read_sound h
  have := cand_rep h1 (readS_lt h)
  rw [h2] at this
  exact ⟨this, h1, h2⟩
theorem fin_short {r n s1 x s2 f s3 : L} {ps : List L} {v : Int} (h1 : afterS seg0 r = some (n, s1)) (h2 : afterS (seg1 ++ n) s1 = some (x, s2)) (h3 : afterS seg2 s2 = some (f, s3))
    (hT : ∀ a s4, afterS seg3 s3 = some (a, s4) → ∀ u, Mb.numS a = some u → ps = rcpS 101 s4 ∧ v = (u : Int)) (hs : r.length < (headS (f, ps, v) n).length + (tailS n).length) : readS r = none := by
  cases hr : readS r with
  | none => rfl
  | some p =>
    have := (cand_some h1 h2 h3 hT (read_cand (e := p.1) (b := p.2) hr).1).1
    omega
theorem fin_ne {r n s1 x s2 f s3 : L} {ps : List L} {v : Int} (h1 : afterS seg0 r = some (n, s1)) (h2 : afterS (seg1 ++ n) s1 = some (x, s2)) (h3 : afterS seg2 s2 = some (f, s3))
    (hT : ∀ a s4, afterS seg3 s3 = some (a, s4) → ∀ u, Mb.numS a = some u → ps = rcpS 101 s4 ∧ v = (u : Int)) {b : L} (hb : b = (r.drop (headS (f, ps, v) n).length).take (r.length - (tailS n).length - (headS (f, ps, v) n).length))
    (hn : ¬ (errS (f, ps, v) b = 0 ∧ repS (f, ps, v) b = r)) : readS r = none := by
  cases hr : readS r with
  | none => rfl
  | some p =>
    obtain ⟨h5, h6, h7⟩ := read_cand (e := p.1) (b := p.2) hr
    have h8 := (cand_some h1 h2 h3 hT h5).2
    have e1 : p.1 = (f, ps, v) := congrArg Prod.fst h8
    have e2 : p.2 = b := by rw [hb]; exact congrArg (fun c : Env × L × L => c.2.2) h8
    rw [e1, e2] at h6 h7
    exact absurd ⟨h6, h7⟩ hn
/-- the recipients' loop. -/
def TgtS (b : Bool) (k : Nat) (s : L) : List L := if b = true then rcpS k s else []
theorem tgt_no {k : Nat} {s : L} (h : afterS seg4 s = none) : TgtS true (k + 1) s = [] := by
  unfold TgtS rcpS
  rw [if_pos rfl, h]
theorem tgt_one {k : Nat} {s a t : L} (h : afterS seg4 s = some (a, t)) : TgtS true (k + 1) s = a :: TgtS true k t := by
  unfold TgtS
  rw [if_pos rfl, if_pos rfl, rcpS, h]
theorem tgt_0 (b : Bool) (s : L) : TgtS b 0 s = [] := by
  unfold TgtS rcpS
  split <;> rfl
end Mi
end Go.Proofs.YtamekflgidfnfaaGreatDoor
namespace Go.Proofs.YtamekflgidfnfaaGreatDoor
set_option maxRecDepth 100000
namespace Mi
open Go.RowKit Go Go.Proofs.YtamekflgidfnfaaGreatDoor.Pa
attribute [local go_sem] Oper.semAt_some
theorem results_cell_two {fn : Func} {p u v : Tmp} {ty : TypeId} (h : fn.results = #[.cell p ty, .tmp u, .tmp v]) (tmps : Array Value) (P : Program) (w : World) :
    (results fn tmps).run P w =
      ((asAddr (tmps.getD p undef)).run P w).andThen fun a w₁ => ((loadVar ty a).run P w₁).andThen fun x w₂ => .ok (.tuple #[x, tmps.getD u undef, tmps.getD v undef]) w₂ := by
  simp only [results, h]
  simp [Sem.run_bind, Result.andThen]
theorem res_RRead {w : World} {g : Nat} {x0 x1 x2 : Value} (tmps : Array Value) (hB : BlkIs w g 34 #[x0, x1, x2]) (h2 : tmps.getD 2 undef = .pointer (some ⟨g, 0, none⟩)) :
    (results Tryz.f11 tmps).run Tryz.prog w = .ok (.tuple #[.agg #[x0, x1, x2], tmps.getD 3 undef, tmps.getD 4 undef]) w := by
  rw [results_cell_two rfl, h2]
  have hl := run_loadVar_row (P := Tryz.prog) w g 34 34 #[x0, x1, x2] (0, 0) _ hB Tryz.underlying34 rfl (by kernel_rfl)
  simp only [asAddr, Result.andThen, Sem.run_pure]
  rw [hl]
theorem seg1_str (n : L) : (⟨#[13, 10, 45, 45]⟩ : ByteArray) ++ str n = str (seg1 ++ n) := by
  rw [show (⟨#[13, 10, 45, 45]⟩ : ByteArray) = str seg1 from rfl, str_append]
theorem tail_str (n : L) : (⟨#[13, 10, 45, 45]⟩ : ByteArray) ++ str n ++ ⟨#[45, 45, 13, 10]⟩ = str (tailS n) := by
  rw [show (⟨#[13, 10, 45, 45]⟩ : ByteArray) = str [13, 10, 45, 45] from rfl, show (⟨#[45, 45, 13, 10]⟩ : ByteArray) = str [45, 45, 13, 10] from rfl, str_append, str_append]
  unfold tailS cr dash
  simp
theorem tos_le3 : ∀ (ps : List L), ps.length ≤ 101 → (∀ t ∈ ps, t.length ≤ 3000) → (tosS ps).length ≤ 3000000 := by
  have key : ∀ l : List L, (∀ x ∈ l, x.length ≤ 3000) → (tosS l).length ≤ l.length * 3013 := by
    intro l
    induction l with
    | nil => intro _; simp [tosS]
    | cons x l ih =>
      intro hx
      have h1 := ih fun y hy => hx y (List.mem_cons_of_mem _ hy)
      have h2 := hx x (by simp)
      have e1 : tosS (x :: l) = (seg4 ++ (x ++ cr)) ++ tosS l := rfl
      have h4 : seg4.length = 11 := rfl
      have h5 : cr.length = 2 := rfl
      rw [e1, List.length_append, List.length_append, List.length_append, List.length_cons]
      omega
  intro ps h1 h2
  have := key ps h2
  omega
theorem headS_len3 (e : Env) (n : L) (hs : SmallE e) (hf : e.1.length ≤ 3000) (hto : (tosS e.2.1).length ≤ 3000000) (hn : n.length ≤ 3000) : (headS e n).length ≤ 3200000 := by
  have h1 := Lib.itoa_length_le e.2.2 hs.v0 (Int.le_of_lt_add_one hs.v1)
  have g0 : seg0.length = 59 := rfl
  have g1 : seg1.length = 4 := rfl
  have g2 : seg2.length = 36 := rfl
  have g3 : seg3.length = 10 := rfl
  have g5 : seg5.length = 32 := rfl
  have g6 : cr.length = 2 := rfl
  have g7 : dash.length = 2 := rfl
  unfold headS
  simp only [List.length_append]
  omega
theorem lapp5m {ops : Array Oper} {o : Oper} {rest : List Oper} {a : Act} {w : World} {Q : Exit → Act → World → Prop} (s x : Operand)
    (ho : o.op = .call { callee := .builtin .append, args := #[s, x], argTypes := #[22, 22] }) (hgd : o.guard = none)
    {N : Nat} {v : Value} {l m : L} (hs : a.eval s = v) (hown : Own5 w N v l) {B k c : Nat} {A : Option Addr} (hx : a.eval x = .slice A k c) (hk : m.length = k) (hr : Bts w B A m)
    (h63 : l.length + m.length ≤ 1000000000) (hN : N ≤ w.heap.size)
    (h : ∀ v' w', Own5 w' N v' (l ++ m) → w.grownBy w' v.ownBlock → wpList Tryz.prog ops Q rest (a.put o.dst v') w') : wpList Tryz.prog ops Q (o :: rest) a w := by
  obtain ⟨i, hi, hz, h0, h1⟩ := info_parts info5
  refine wpList_plain hgd fun _ hK => wp_app s x ho Tryz.underlying22 hi hz h0 h1 rfl hs hown hx hr (by rw [bv_length]; exact hk) (bv_one m) (by rw [← hk]; exact h63) (by decide) hN fun v' w' h2 h3 => hK _ _ (h v' w' ?_ h3)
  rw [← hk] at h2
  unfold Own5
  rw [List.length_append, bv_append]
  exact h2
set_option maxHeartbeats 6400000 in
theorem rread_any {w : World} {A : Option Addr} {r : L} (h : Bts w w.heap.size A r) (c : Nat) (hc : r.length ≤ c) (hm : c ≤ maxLen) (hA : A = none → c = 0) (hl : r.length ≤ 3000) (hT : GlT w) :
    Calls Tryz.prog 11 #[.slice A r.length c] w fun e w' => Below w.heap.size w w' ∧ ((readS r = none ∧ e = .returned (.tuple #[.agg #[.string ⟨#[]⟩, .slice none 0 0, .int .i64 0], .slice none 0 0, .int .i64 110])) ∨
      ∃ en b x A c, readS r = some (en, b) ∧ e = .returned (.tuple #[x, .slice A b.length c, .int .i64 0]) ∧ EnvAt w' w'.heap.size x en ∧ Bts w' w'.heap.size A b) := by
  have HAF := Lib.hid (fun (s what : L) (W : World) (h1 : s.length ≤ 3000) (h2 : what.length ≤ 4000) => rafter_any s what W (by omega) (by omega))
  have hbA : Below w.heap.size w ((w.alloc (.cells #[.string ⟨#[]⟩, .slice none 0 0, .int .i64 0] 34)).alloc (.cells #[.string ⟨#[]⟩, .slice none 0 0, .int .i64 0] 34)) := ((Below.refl _ w).alloc (Nat.le_refl _) _).alloc (by simp) _
  have hcv := conv_str ((h.below hbA).more hbA.size) c
  have HRB := Lib.hid h
  have k0 : BlkIs ((w.alloc (.cells #[.string ⟨#[]⟩, .slice none 0 0, .int .i64 0] 34)).alloc (.cells #[.string ⟨#[]⟩, .slice none 0 0, .int .i64 0] 34)) w.heap.size 34 #[.string ⟨#[]⟩, .slice none 0 0, .int .i64 0] := (BlkIs.new w _ _).alloc _
  have k1 : BlkIs ((w.alloc (.cells #[.string ⟨#[]⟩, .slice none 0 0, .int .i64 0] 34)).alloc (.cells #[.string ⟨#[]⟩, .slice none 0 0, .int .i64 0] 34)) (w.heap.size + 1) 34 #[.string ⟨#[]⟩, .slice none 0 0, .int .i64 0] := by
    have := BlkIs.new (w.alloc (.cells #[.string ⟨#[]⟩, .slice none 0 0, .int .i64 0] 34)) 34 #[.string ⟨#[]⟩, .slice none 0 0, .int .i64 0]
    rwa [World.size_alloc] at this
  have HB0 := Lib.hid hbA
  have HS0 := Lib.hid k0
  have HE0 := Lib.hid k1
  have HZ0 : Hid (w.heap.size + 2 ≤ ((w.alloc (.cells #[.string ⟨#[]⟩, .slice none 0 0, .int .i64 0] 34)).alloc (.cells #[.string ⟨#[]⟩, .slice none 0 0, .int .i64 0] 34)).heap.size) := Lib.hid (by simp)
  have HRL := Lib.hid hl
  have HA1 := Lib.hid (HAF.out r seg0 ((w.alloc (.cells #[.string ⟨#[]⟩, .slice none 0 0, .int .i64 0] 34)).alloc (.cells #[.string ⟨#[]⟩, .slice none 0 0, .int .i64 0] 34)) hl (by decide))
  have HGT := Lib.hid hT
  have HCA := Lib.hid (And.intro hc (And.intro hm hA))
  have hrm : r.length ≤ 3000 := hl
  clear h hbA k0 k1 hc hA hT hl
  generalize hrn : r.length = rn at *
  have HRN := Lib.hid hrn
  clear hrn
  generalize hsr0 : str r = sr at *
  have HSR := Lib.hid hsr0
  clear hsr0
  go_enter Tryz.func11, Tryz.ntmps11
  go_wp2_with fail
  refine HA1.out.mono ?_
  rintro e w1 ⟨hb1, hq⟩
  have HB1 := Lib.hid (HB0.out.trans (hb1.mono HB0.out.size))
  have HS1 : Hid (BlkIs w1 w.heap.size 34 #[.string ⟨#[]⟩, .slice none 0 0, .int .i64 0]) := Lib.hid ((hb1.block _ HS0.out.lt).trans HS0.out)
  have HE1 : Hid (BlkIs w1 (w.heap.size + 1) 34 #[.string ⟨#[]⟩, .slice none 0 0, .int .i64 0]) := Lib.hid ((hb1.block _ HE0.out.lt).trans HE0.out)
  have HZ1 : Hid (w.heap.size + 2 ≤ w1.heap.size) := Lib.hid (by have := hb1.size; have := HZ0.out; omega)
  clear hb1 HB0 HS0 HE0 HZ0
  clear HA1 hcv
  rcases hq with ⟨hn1, t1, rfl⟩ | ⟨n, s1, h1, hl1, rfl⟩
  · have HN := Lib.hid (no_1 hn1)
    clear hn1
    have z0 := (BlkIs.cell HS1.out 0).trans (rfl : _ = some (Value.string ⟨#[]⟩))
    have z1 := (BlkIs.cell HS1.out 1).trans (rfl : _ = some (Value.slice none 0 0))
    have z2 := (BlkIs.cell HS1.out 2).trans (rfl : _ = some (Value.int .i64 0))
    have zf0 := HS1.out.froz 0
    have zf1 := HS1.out.froz 1
    have zf2 := HS1.out.froz 2
    go_wp2_with fail
    refine bodyPost_ret (res_RRead _ (((HS1.out.put 0 (.string ⟨#[]⟩)).put 1 (.slice none 0 0)).put 2 (.int .i64 0)) rfl) rfl ?_
    exact ⟨((HB1.out.setCell (Nat.le_refl _) _).setCell (Nat.le_refl _) _).setCell (Nat.le_refl _) _, .inl ⟨HN.out, rfl⟩⟩

  have H1 := Lib.hid h1
  rw [HRN.out] at hl1
  have hn3 : n.length ≤ 3000 := by omega
  have hs3 : s1.length ≤ 3000 := by omega
  have HA2 := Lib.hid (HAF.out s1 (seg1 ++ n) w1 hs3 (by rw [List.length_append]; have : seg1.length = 4 := rfl; omega))
  have hcc := seg1_str n
  have HTL := Lib.hid (tail_str n)
  have hsn : (str n).size ≤ 3000 := by rw [str_size]; exact hn3
  have hsx : (str (seg1 ++ n)).size ≤ 3004 := by rw [str_size, List.length_append]; have : seg1.length = 4 := rfl; omega
  generalize hsn0 : str n = sn at *
  have HSN := Lib.hid hsn0
  clear hsn0
  generalize str (seg1 ++ n) = sx at *
  generalize str s1 = ss1 at *
  have HN3 := Lib.hid hn3
  clear h1 hl1 hn3
  go_wp2_with fail
  refine HA2.out.mono ?_
  rintro e w2 ⟨hb2, hq⟩
  have HB2 := Lib.hid (HB1.out.trans (hb2.mono HB1.out.size))
  have HS2 : Hid (BlkIs w2 w.heap.size 34 #[.string ⟨#[]⟩, .slice none 0 0, .int .i64 0]) := Lib.hid ((hb2.block _ HS1.out.lt).trans HS1.out)
  have HE2 : Hid (BlkIs w2 (w.heap.size + 1) 34 #[.string ⟨#[]⟩, .slice none 0 0, .int .i64 0]) := Lib.hid ((hb2.block _ HE1.out.lt).trans HE1.out)
  have HZ2 : Hid (w.heap.size + 2 ≤ w2.heap.size) := Lib.hid (by have := hb2.size; have := HZ1.out; omega)
  clear hb2 HB1 HS1 HE1 HZ1
  clear HA2
  rcases hq with ⟨hn2, t2, rfl⟩ | ⟨x2, s2, h2, hl2, rfl⟩
  · have HN := Lib.hid (no_2 H1.out hn2)
    clear hn2
    have z0 := (BlkIs.cell HS2.out 0).trans (rfl : _ = some (Value.string ⟨#[]⟩))
    have z1 := (BlkIs.cell HS2.out 1).trans (rfl : _ = some (Value.slice none 0 0))
    have z2 := (BlkIs.cell HS2.out 2).trans (rfl : _ = some (Value.int .i64 0))
    have zf0 := HS2.out.froz 0
    have zf1 := HS2.out.froz 1
    have zf2 := HS2.out.froz 2
    go_wp2_with fail
    refine bodyPost_ret (res_RRead _ (((HS2.out.put 0 (.string ⟨#[]⟩)).put 1 (.slice none 0 0)).put 2 (.int .i64 0)) rfl) rfl ?_
    exact ⟨((HB2.out.setCell (Nat.le_refl _) _).setCell (Nat.le_refl _) _).setCell (Nat.le_refl _) _, .inl ⟨HN.out, rfl⟩⟩

  have H2 := Lib.hid h2
  have hs4 : s2.length ≤ 3000 := by omega
  have HA3 := Lib.hid (HAF.out s2 seg2 w2 hs4 (by decide))
  clear h2 hl2 hcc hs3
  go_wp2_with fail
  refine HA3.out.mono ?_
  rintro e w3 ⟨hb3, hq⟩
  have HB3 := Lib.hid (HB2.out.trans (hb3.mono HB2.out.size))
  have HS3 : Hid (BlkIs w3 w.heap.size 34 #[.string ⟨#[]⟩, .slice none 0 0, .int .i64 0]) := Lib.hid ((hb3.block _ HS2.out.lt).trans HS2.out)
  have HE3 : Hid (BlkIs w3 (w.heap.size + 1) 34 #[.string ⟨#[]⟩, .slice none 0 0, .int .i64 0]) := Lib.hid ((hb3.block _ HE2.out.lt).trans HE2.out)
  have HZ3 : Hid (w.heap.size + 2 ≤ w3.heap.size) := Lib.hid (by have := hb3.size; have := HZ2.out; omega)
  clear hb3 HB2 HS2 HE2 HZ2
  clear HA3
  have y0 := (BlkIs.cell HE3.out 0).trans (rfl : _ = some (Value.string ⟨#[]⟩))
  have yf0 := HE3.out.froz 0
  rcases hq with ⟨hn3, t3, rfl⟩ | ⟨f, s3, h3, hl3, rfl⟩
  · have HN := Lib.hid (no_3 H1.out H2.out hn3)
    have HS4 := Lib.hid (HS3.out.far (x := ⟨w.heap.size + 1, 0, none⟩) (by show w.heap.size ≠ w.heap.size + 1; omega) (.string ⟨#[]⟩))
    have HB4 := Lib.hid (HB3.out.setCell (p := ⟨w.heap.size + 1, 0, none⟩) (by show w.heap.size ≤ w.heap.size + 1; omega) (.string ⟨#[]⟩))
    clear hn3
    have z0 := (BlkIs.cell HS4.out 0).trans (rfl : _ = some (Value.string ⟨#[]⟩))
    have z1 := (BlkIs.cell HS4.out 1).trans (rfl : _ = some (Value.slice none 0 0))
    have z2 := (BlkIs.cell HS4.out 2).trans (rfl : _ = some (Value.int .i64 0))
    have zf0 := HS4.out.froz 0
    have zf1 := HS4.out.froz 1
    have zf2 := HS4.out.froz 2
    go_wp2_with fail
    refine bodyPost_ret (res_RRead _ (((HS4.out.put 0 (.string ⟨#[]⟩)).put 1 (.slice none 0 0)).put 2 (.int .i64 0)) rfl) rfl ?_
    exact ⟨((HB4.out.setCell (Nat.le_refl _) _).setCell (Nat.le_refl _) _).setCell (Nat.le_refl _) _, .inl ⟨HN.out, rfl⟩⟩

  have H3 := Lib.hid h3
  have hs5 : s3.length ≤ 3000 := by omega
  have HFL : Hid (f.length ≤ 3000) := Lib.hid (by omega)
  have HA4 := Lib.hid (fun W => HAF.out s3 seg3 W hs5 (by decide))
  have HSF : Hid (str f = str f) := Lib.hid rfl
  clear h3 hl3 hs4 HSF
  generalize hsf : str f = sf at *
  have HSF := Lib.hid hsf
  clear hsf
  have HS4 := Lib.hid (HS3.out.far (x := ⟨w.heap.size + 1, 0, none⟩) (by show w.heap.size ≠ w.heap.size + 1; omega) (.string sf))
  have HB4 := Lib.hid (HB3.out.setCell (p := ⟨w.heap.size + 1, 0, none⟩) (by show w.heap.size ≤ w.heap.size + 1; omega) (.string sf))
  have HE4 : Hid (BlkIs (w3.setCell ⟨w.heap.size + 1, 0, none⟩ (.string sf)) (w.heap.size + 1) 34 #[.string sf, .slice none 0 0, .int .i64 0]) := Lib.hid (HE3.out.put 0 (.string sf))
  have HZ4 : Hid (w.heap.size + 2 ≤ (w3.setCell ⟨w.heap.size + 1, 0, none⟩ (.string sf)).heap.size) := Lib.hid (by have h := HZ3.out; simpa [World.setCell] using h)
  have HA4' := Lib.hid (HA4.out (w3.setCell ⟨w.heap.size + 1, 0, none⟩ (.string sf)))
  generalize str s3 = ss3 at *
  go_wp2_with fail
  clear y0 yf0
  generalize w3.setCell ⟨w.heap.size + 1, 0, none⟩ (.string sf) = w4 at *
  refine HA4'.out.mono ?_
  rintro e w5 ⟨hb5, hq⟩
  have HB5 := Lib.hid (HB4.out.trans (hb5.mono HB4.out.size))
  have HS5 : Hid (BlkIs w5 w.heap.size 34 #[.string ⟨#[]⟩, .slice none 0 0, .int .i64 0]) := Lib.hid ((hb5.block _ HS4.out.lt).trans HS4.out)
  have HE5 : Hid (BlkIs w5 (w.heap.size + 1) 34 #[.string sf, .slice none 0 0, .int .i64 0]) := Lib.hid ((hb5.block _ HE4.out.lt).trans HE4.out)
  have HZ5 : Hid (w.heap.size + 2 ≤ w5.heap.size) := Lib.hid (by have := hb5.size; have := HZ4.out; omega)
  clear hb5 HB4 HS4 HE4 HZ4
  obtain ⟨at_, ts, b, tl, hat, htl, he, hbb⟩ : ∃ (at_ : L) (ts : ByteArray) (b : Bool) (tl : L), at_.length ≤ 3000 ∧ tl.length ≤ 3000 ∧ e = .returned (.tuple #[.string (str at_), .string ts, .bool b]) ∧ ((b = true ∧ ts = str tl ∧ afterS seg3 s3 = some (at_, tl)) ∨ (b = false ∧ afterS seg3 s3 = none)) := by
    rcases hq with ⟨hn4, t4, rfl⟩ | ⟨a4, s4, h4, hl4, rfl⟩
    · exact ⟨[], t4, false, [], by simp, by simp, rfl, .inr ⟨rfl, hn4⟩⟩
    · exact ⟨a4, str s4, true, s4, by omega, by omega, rfl, .inl ⟨rfl, rfl, h4⟩⟩
  subst he
  have HBB := Lib.hid hbb
  have HTLL := Lib.hid htl
  have HA6 := Lib.hid (rnumber_b at_ w5 (by omega))
  clear hq hbb hat htl hs5 HA4 HA4'
  generalize str at_ = sat at *
  go_wp2_with fail
  refine HA6.out.mono ?_
  rintro e w6 ⟨hb6, hq⟩
  have HB6 := Lib.hid (HB5.out.trans (hb6.mono HB5.out.size))
  have HS6 : Hid (BlkIs w6 w.heap.size 34 #[.string ⟨#[]⟩, .slice none 0 0, .int .i64 0]) := Lib.hid ((hb6.block _ HS5.out.lt).trans HS5.out)
  have HE6 : Hid (BlkIs w6 (w.heap.size + 1) 34 #[.string sf, .slice none 0 0, .int .i64 0]) := Lib.hid ((hb6.block _ HE5.out.lt).trans HE5.out)
  have HZ6 : Hid (w.heap.size + 2 ≤ w6.heap.size) := Lib.hid (by have := hb6.size; have := HZ5.out; omega)
  clear hb6 HB5 HS5 HE5 HZ5
  obtain ⟨v, bq, he, hv0, hv1, hvu⟩ : ∃ (v : Int) (bq : Bool), e = .returned (.tuple #[.int .i64 v, .bool bq]) ∧ -9223372036854775808 ≤ v ∧ v < 9223372036854775808 ∧ ∀ u, Mb.numS at_ = some u → v = (u : Int) := by
    rcases hq with ⟨u, hu, rfl⟩ | ⟨hu, v, rfl, hv0, hv1⟩
    · have := Mb.numS_some hu
      exact ⟨u, true, rfl, by omega, by have := num_lt hu; omega, fun u' hu' => by rw [hu] at hu'; injection hu' with hu'; rw [hu']⟩
    · exact ⟨v, false, rfl, hv0, hv1, fun u' hu' => by rw [hu] at hu'; cases hu'⟩
  subst he
  have HV := Lib.hid (And.intro hv0 (And.intro hv1 hvu))
  clear hq hv0 hv1 hvu HA6
  have y2 := (BlkIs.cell HE6.out 2).trans (rfl : _ = some (Value.int .i64 0))
  have yf2 := HE6.out.froz 2
  have HS7 := Lib.hid (HS6.out.far (x := ⟨w.heap.size + 1, 2, none⟩) (by show w.heap.size ≠ w.heap.size + 1; omega) (.int .i64 v))
  have HB7 := Lib.hid (HB6.out.setCell (p := ⟨w.heap.size + 1, 2, none⟩) (by show w.heap.size ≤ w.heap.size + 1; omega) (.int .i64 v))
  have HE7 : Hid (BlkIs (w6.setCell ⟨w.heap.size + 1, 2, none⟩ (.int .i64 v)) (w.heap.size + 1) 34 #[.string sf, .slice none 0 0, .int .i64 v]) := Lib.hid (HE6.out.put 2 (.int .i64 v))
  have HZ7 : Hid (w.heap.size + 2 ≤ (w6.setCell ⟨w.heap.size + 1, 2, none⟩ (.int .i64 v)).heap.size) := Lib.hid (by have h := HZ6.out; simpa [World.setCell] using h)
  clear HB6 HS6 HE6 HZ6 HB3 HS3 HE3 HZ3
  go_upto_block 0 with fail
  clear y2 yf2
  generalize w6.setCell ⟨w.heap.size + 1, 2, none⟩ (.int .i64 v) = w7 at *
  go_cut [] from 7 to 76 (fun wd => ∃ (ps : List L) (A5 : Option Addr) (c5 : Nat), ps = TgtS b 101 tl ∧ ps.length ≤ 101 ∧ (∀ t ∈ ps, t.length ≤ 3000) ∧ Hid (BlkIs wd (w.heap.size + 1) 34 #[.string sf, .slice A5 ps.length c5, .int .i64 v]) ∧ Hid (BlkIs wd w.heap.size 34 #[.string ⟨#[]⟩, .slice none 0 0, .int .i64 0]) ∧ Hid (wd.ownsRow (w.heap.size + 2) 9 1 (.slice A5 ps.length c5) ps.length (tv ps)) ∧ Hid (Below w.heap.size w wd))
  case first =>
    go_wp2_with fail
    go_loopg [7, 8, 10] 102 (fun g x7 x8 _ wr => ∃ (ps : List L) (A5 : Option Addr) (c5 k : Nat) (b5 : Bool) (ts5 : ByteArray) (tl5 : L), x7 = .string ts5 ∧ x8 = .bool b5 ∧ k = ps.length ∧ k ≤ 101 ∧ (101 - k) + (if b5 = true then 1 else 0) ≤ g ∧ Hid (b5 = true → ts5 = str tl5 ∧ k ≤ 100) ∧ tl5.length ≤ 3000 ∧ Hid (ps ++ TgtS b5 (101 - k) tl5 = TgtS b 101 tl) ∧ Hid (∀ t ∈ ps, t.length ≤ 3000) ∧
      Hid (BlkIs wr (w.heap.size + 1) 34 #[.string sf, .slice A5 k c5, .int .i64 v]) ∧ Hid (BlkIs wr w.heap.size 34 #[.string ⟨#[]⟩, .slice none 0 0, .int .i64 0]) ∧ Hid (wr.ownsRow (w.heap.size + 2) 9 1 (.slice A5 k c5) ps.length (tv ps)) ∧ Hid (Below w.heap.size w wr) ∧ Hid (w.heap.size + 2 ≤ wr.heap.size))
    case atStart => exact ⟨[], none, 0, 0, b, ts, tl, rfl, rfl, rfl, by omega, by split <;> omega, Lib.hid (fun e => by rcases HBB.out with ⟨_, h2, _⟩ | ⟨h1, _⟩; exact ⟨h2, by omega⟩; rw [h1] at e; cases e), HTLL.out, Lib.hid (by simp), Lib.hid (fun t ht => by cases ht), HE7, HS7, Lib.hid (World.ownsRow_nil _ _ _ _), HB7, HZ7⟩
    case round =>
      obtain ⟨ps, A5, c5, k, b5, ts5, tl5, rfl, rfl, hk, hk1, hg, HBT, htl5, HTG, HPS, HE8, HS8, HO8, HB8, HZ8⟩ := hrel
      have HK := Lib.hid hk
      clear hk
      cases b5 with
      | false =>
        go_wp2_with fail
        go_meet
        have hq := HTG.out
        rw [show TgtS false (101 - k) tl5 = [] from rfl, List.append_nil] at hq
        refine ⟨ps, A5, c5, hq, by rw [← HK.out]; exact hk1, HPS.out, ?_, HS8, ?_, HB8⟩
        · rw [← HK.out]; exact HE8
        · have := HO8.out; rw [HK.out] at this; exact Lib.hid this
      | true =>
        obtain ⟨rfl, hk2⟩ := HBT.out rfl
        have hg2 : 102 - k ≤ gk := by have := hg; simp at this; omega
        have HA9 := Lib.hid (HAF.out tl5 seg4 wr htl5 (by decide))
        clear HBT hg
        generalize str tl5 = ss5 at *
        go_wp2_with fail
        refine HA9.out.mono ?_
        rintro e w9 ⟨hb9, hq⟩
        have HB9 := Lib.hid (HB8.out.trans (hb9.mono HB8.out.size))
        have HS9 : Hid (BlkIs w9 w.heap.size 34 #[.string ⟨#[]⟩, .slice none 0 0, .int .i64 0]) := Lib.hid ((hb9.block _ HS8.out.lt).trans HS8.out)
        have HE9 : Hid (BlkIs w9 (w.heap.size + 1) 34 #[.string sf, .slice A5 k c5, .int .i64 v]) := Lib.hid ((hb9.block _ HE8.out.lt).trans HE8.out)
        have HZ9 : Hid (w.heap.size + 2 ≤ w9.heap.size) := Lib.hid (by have := hb9.size; have := HZ8.out; omega)
        have HO9 : Hid (w9.ownsRow (w.heap.size + 2) 9 1 (.slice A5 k c5) ps.length (tv ps)) := Lib.hid (own_kept HO8.out hb9 (Nat.le_refl _))
        clear hb9 HB8 HS8 HE8 HZ8 HO8 HA9
        have hkk : 101 - k = (100 - k) + 1 := by omega
        rcases hq with ⟨hn9, t9, rfl⟩ | ⟨a9, s9, h9, hl9, rfl⟩
        · have z1 := (BlkIs.cell HE9.out 1).trans (rfl : _ = some (Value.slice A5 k c5))
          have hq := HTG.out
          rw [hkk, tgt_no hn9, List.append_nil] at hq
          have HQ := Lib.hid hq
          have zk : ¬ (100 : Int) < (k : Int) := by omega
          clear hn9 hq HTG
          go_wp2_with fail
          go_roundg (101 - k)
          case rel => exact ⟨ps, A5, c5, k, false, t9, [], rfl, rfl, HK.out, hk1, by simp, Lib.hid (fun e => by cases e), by simp, Lib.hid (by rw [show TgtS false (101 - k) [] = [] from rfl, List.append_nil]; exact HQ.out), HPS, HE9, HS9, HO9, HB9, HZ9⟩
          case measure => omega
        · obtain ⟨k1, hk1e⟩ : ∃ k1, k1 = k + 1 := ⟨_, rfl⟩
          have hq := HTG.out
          rw [hkk, tgt_one h9] at hq
          have HQ : Hid ((ps ++ [a9]) ++ TgtS true (100 - k) s9 = TgtS b 101 tl) := Lib.hid (by rw [List.append_assoc]; exact hq)
          have HK11 : Hid ((ps ++ [a9]).length = k1) := Lib.hid (by rw [List.length_append, ← HK.out, hk1e]; rfl)
          have HPS2 : Hid (∀ t ∈ ps ++ [a9], t.length ≤ 3000) := Lib.hid (fun t ht => by
            rcases List.mem_append.1 ht with h | h
            · exact HPS.out t h
            · rw [List.mem_singleton.1 h]; omega)
          have HS9L : Hid (s9.length ≤ 3000) := Lib.hid (by omega)
          have hba : Below w9.heap.size w9 (w9.alloc (.cells #[.string (str a9)] 9)) := (Below.refl _ _).alloc (Nat.le_refl _) _
          have HOA : Hid ((w9.alloc (.cells #[.string (str a9)] 9)).ownsRow (w.heap.size + 2) 9 1 (.slice A5 k c5) ps.length (tv ps)) := Lib.hid (own_kept HO9.out hba (Nat.le_refl _))
          have HEA : Hid (BlkIs (w9.alloc (.cells #[.string (str a9)] 9)) (w.heap.size + 1) 34 #[.string sf, .slice A5 k c5, .int .i64 v]) := Lib.hid (HE9.out.alloc _)
          have HSA : Hid (BlkIs (w9.alloc (.cells #[.string (str a9)] 9)) w.heap.size 34 #[.string ⟨#[]⟩, .slice none 0 0, .int .i64 0]) := Lib.hid (HS9.out.alloc _)
          have HBA := Lib.hid (HB9.out.trans (hba.mono HB9.out.size))
          have HXA : Hid (Tx (w9.alloc (.cells #[.string (str a9)] 9)) (w9.heap.size + 1) (some ⟨w9.heap.size, 0, none⟩) [a9]) := Lib.hid (tx_lit w9 #[.string (str a9)] [a9] rfl)
          have z1 := (BlkIs.cell HE9.out 1).trans (rfl : _ = some (Value.slice A5 k c5))
          have HK1E := Lib.hid hk1e
          clear hk1e hba hq h9 hl9 htl5 HTG HPS hkk
          generalize str a9 = sa9 at *
          by_cases hbr : k1 ≤ 100
          · have zk : ¬ (100 : Int) < (k1 : Int) := by omega
            go_wp2_with (first
              | (refine appTs (.tmp 68) (.tmp 70) rfl rfl (ps := ps) (qs := [a9]) (B := w9.heap.size + 1) (A := some ⟨w9.heap.size, 0, none⟩) (c := 1) rfl HOA.out rfl HXA.out (by rw [← HK.out]; simp; omega) (by have := HZ9.out; simp; omega) ?_; intro v11 w11 h1 h2; rw [HK11.out] at h1; obtain ⟨A11, c11, rfl, _, _⟩ := own_slice h1; have HO11 := Lib.hid h1; have HE11 : Hid (BlkIs w11 (w.heap.size + 1) 34 #[.string sf, .slice A5 k c5, .int .i64 v]) := Lib.hid (HEA.out.grown h2 (own_row HOA.out HEA.out (by decide))); have HS11 : Hid (BlkIs w11 w.heap.size 34 #[.string ⟨#[]⟩, .slice none 0 0, .int .i64 0]) := Lib.hid (HSA.out.grown h2 (own_row HOA.out HSA.out (by decide))); have HB11 : Hid (Below w.heap.size w w11) := Lib.hid (HBA.out.grown h2 HBA.out.size (fun q hq => by have := (HOA.out.lt q hq).1; omega)); have zc := (BlkIs.cell HE11.out 1).trans (rfl : _ = some (Value.slice A5 k c5)); have zf := HE11.out.froz 1; clear h1 h2)
              | fail)
            have HE12 : Hid (BlkIs (w11.setCell ⟨w.heap.size + 1, 1, none⟩ (.slice A11 k1 c11)) (w.heap.size + 1) 34 #[.string sf, .slice A11 k1 c11, .int .i64 v]) := Lib.hid (HE11.out.put 1 _)
            have HS12 := Lib.hid (HS11.out.far (x := ⟨w.heap.size + 1, 1, none⟩) (by show w.heap.size ≠ w.heap.size + 1; omega) (.slice A11 k1 c11))
            have HB12 := Lib.hid (HB11.out.setCell (p := ⟨w.heap.size + 1, 1, none⟩) (by show w.heap.size ≤ w.heap.size + 1; omega) (.slice A11 k1 c11))
            have HO12 := Lib.hid (own_far HO11.out (x := ⟨w.heap.size + 1, 1, none⟩) (fun q hq => by have := (HO11.out.lt q hq).1; show q ≠ w.heap.size + 1; omega) (.slice A11 k1 c11))
            go_roundg (101 - k)
            case rel => exact ⟨ps ++ [a9], A11, c11, k1, true, str s9, s9, rfl, rfl, HK11.out.symm, by omega, by have := HK1E.out; simp; omega, Lib.hid (fun _ => ⟨rfl, hbr⟩), HS9L.out, Lib.hid (by rw [show 101 - k1 = 100 - k by have := HK1E.out; omega]; exact HQ.out), HPS2, HE12, HS12, Lib.hid (by rw [HK11.out]; exact HO12.out), HB12, Lib.hid (by have := HE12.out.lt; omega)⟩
            case measure => omega
          · have zk : (100 : Int) < (k1 : Int) := by omega
            go_wp2_with (first
              | (refine appTs (.tmp 68) (.tmp 70) rfl rfl (ps := ps) (qs := [a9]) (B := w9.heap.size + 1) (A := some ⟨w9.heap.size, 0, none⟩) (c := 1) rfl HOA.out rfl HXA.out (by rw [← HK.out]; simp; omega) (by have := HZ9.out; simp; omega) ?_; intro v11 w11 h1 h2; rw [HK11.out] at h1; obtain ⟨A11, c11, rfl, _, _⟩ := own_slice h1; have HO11 := Lib.hid h1; have HE11 : Hid (BlkIs w11 (w.heap.size + 1) 34 #[.string sf, .slice A5 k c5, .int .i64 v]) := Lib.hid (HEA.out.grown h2 (own_row HOA.out HEA.out (by decide))); have HS11 : Hid (BlkIs w11 w.heap.size 34 #[.string ⟨#[]⟩, .slice none 0 0, .int .i64 0]) := Lib.hid (HSA.out.grown h2 (own_row HOA.out HSA.out (by decide))); have HB11 : Hid (Below w.heap.size w w11) := Lib.hid (HBA.out.grown h2 HBA.out.size (fun q hq => by have := (HOA.out.lt q hq).1; omega)); have zc := (BlkIs.cell HE11.out 1).trans (rfl : _ = some (Value.slice A5 k c5)); have zf := HE11.out.froz 1; clear h1 h2)
              | fail)
            have HE12 : Hid (BlkIs (w11.setCell ⟨w.heap.size + 1, 1, none⟩ (.slice A11 k1 c11)) (w.heap.size + 1) 34 #[.string sf, .slice A11 k1 c11, .int .i64 v]) := Lib.hid (HE11.out.put 1 _)
            have HS12 := Lib.hid (HS11.out.far (x := ⟨w.heap.size + 1, 1, none⟩) (by show w.heap.size ≠ w.heap.size + 1; omega) (.slice A11 k1 c11))
            have HB12 := Lib.hid (HB11.out.setCell (p := ⟨w.heap.size + 1, 1, none⟩) (by show w.heap.size ≤ w.heap.size + 1; omega) (.slice A11 k1 c11))
            have HO12 := Lib.hid (own_far HO11.out (x := ⟨w.heap.size + 1, 1, none⟩) (fun q hq => by have := (HO11.out.lt q hq).1; show q ≠ w.heap.size + 1; omega) (.slice A11 k1 c11))
            go_meet
            have hq := HQ.out
            rw [show 100 - k = 0 by have := HK1E.out; omega, tgt_0, List.append_nil] at hq
            exact ⟨ps ++ [a9], A11, c11, hq, by rw [HK11.out]; have := HK1E.out; omega, HPS2.out, Lib.hid (by rw [HK11.out]; exact HE12.out), HS12, Lib.hid (by rw [HK11.out]; exact HO12.out), HB12⟩
  case rest =>
    obtain ⟨ps, A5, c5, hps, hpl, hpt, HEc, HSc, HOc, HBc⟩ := hcut
    have hT : ∀ a s4, afterS seg3 s3 = some (a, s4) → ∀ u, Mb.numS a = some u → ps = rcpS 101 s4 ∧ v = (u : Int) := fun a s4 h4 u hu => by
      rcases HBB.out with ⟨hb, _, hx⟩ | ⟨_, hx⟩
      · rw [hx] at h4
        injection h4 with h4
        injection h4 with h5 h6
        subst h5 h6
        rw [hps, hb]
        exact ⟨rfl, HV.out.2.2 u hu⟩
      · rw [hx] at h4
        cases h4
    have hgd : ∀ k, (ps.getD k []).length ≤ 3000 := fun k => by
      rcases Nat.lt_or_ge k ps.length with hk | hk
      · exact hpt _ (by simp [List.getD, hk])
      · simp [List.getD, List.getElem?_eq_none hk]
    have hs : SmallE (f, ps, v) := ⟨by have := HFL.out; show f.length ≤ _; omega, fun k => by have := hgd k; show (ps.getD k []).length ≤ _; omega, by show ps.length ≤ _; omega, HV.out.1, HV.out.2.1⟩
    have hto : (tosS ps).length ≤ 3000000 := tos_le3 ps hpl hpt
    have hev : ∀ X, Below w.heap.size w X → BlkIs X (w.heap.size + 1) 34 #[.string sf, .slice A5 ps.length c5, .int .i64 v] → X.ownsRow (w.heap.size + 2) 9 1 (.slice A5 ps.length c5) ps.length (tv ps) → EnvAt X X.heap.size (.agg #[.string sf, .slice A5 ps.length c5, .int .i64 v]) (f, ps, v) := fun X hX _ hO => by
      obtain ⟨A', c', e1, g1, g2⟩ := own_slice hO
      injection e1 with e1 e2 e3
      subst e1 e3
      exact ⟨A5, c5, by rw [HSF.out], Tx.of_own hO, g1, g2⟩
    have HEV := Lib.hid hev
    have HS := Lib.hid hs
    have HTT := Lib.hid hT
    have HTO := Lib.hid hto
    have HGD := Lib.hid hgd
    have HP1 := Lib.hid hpl
    have hAc := HEV.out wc HBc.out HEc.out HOc.out
    have hhd := (rhead_any (n := n) hAc hs (fun k => by have := hgd k; show (ps.getD k []).length ≤ _; omega) (by have := HN3.out; omega) hto (HGT.out.below HBc.out HGT.out.lt))
    rw [HSN.out] at hhd
    have HHD := Lib.hid hhd
    have hhl := headS_len3 (f, ps, v) n hs (by have := HFL.out; exact this) hto HN3.out
    have htl : (tailS n).length ≤ 3010 := by have := HN3.out; unfold tailS cr dash; simp; omega
    have hsh : (str (headS (f, ps, v) n)).size = (headS (f, ps, v) n).length := str_size _
    have hst : (str (tailS n)).size = (tailS n).length := str_size _
    clear hT hgd hs hto hev hps hpl hpt hAc hhd
    generalize hpn : ps.length = pn at *
    have HPN := Lib.hid hpn
    generalize hhh : (headS (f, ps, v) n).length = hh at *
    have HHH := Lib.hid hhh
    generalize htt : (tailS n).length = tt at *
    have HTTL := Lib.hid htt
    generalize str (headS (f, ps, v) n) = sh at *
    have htl0 := HTL.out
    generalize str (tailS n) = st at *
    clear hpn hhh htt
    have z0 := (BlkIs.cell HEc.out 0).trans (rfl : _ = some (Value.string sf))
    have z1 := (BlkIs.cell HEc.out 1).trans (rfl : _ = some (Value.slice A5 pn c5))
    have z2 := (BlkIs.cell HEc.out 2).trans (rfl : _ = some (Value.int .i64 v))
    go_wp2_with fail
    refine HHD.out.mono ?_
    rintro e w10 ⟨rfl, hb10⟩
    have HB10 := Lib.hid (HBc.out.trans (hb10.mono HBc.out.size))
    have HS10 : Hid (BlkIs w10 w.heap.size 34 #[.string ⟨#[]⟩, .slice none 0 0, .int .i64 0]) := Lib.hid ((hb10.block _ HSc.out.lt).trans HSc.out)
    have HE10 : Hid (BlkIs w10 (w.heap.size + 1) 34 #[.string sf, .slice A5 pn c5, .int .i64 v]) := Lib.hid ((hb10.block _ HEc.out.lt).trans HEc.out)
    have HO10 : Hid (w10.ownsRow (w.heap.size + 2) 9 1 (.slice A5 pn c5) pn (tv ps)) := Lib.hid (own_kept HOc.out hb10 (Nat.le_refl _))
    clear hb10 z0 z1 z2 HBc HSc HEc HOc HHD
    by_cases hsm : rn < hh + tt
    · have HN := Lib.hid (fin_short H1.out H2.out H3.out HTT.out (by rw [HRN.out, HHH.out, HTTL.out]; exact hsm))
      have hsi : (rn : Int) < (hh : Int) + (tt : Int) := by omega
      clear hsm
      have z0 := (BlkIs.cell HS10.out 0).trans (rfl : _ = some (Value.string ⟨#[]⟩))
      have z1 := (BlkIs.cell HS10.out 1).trans (rfl : _ = some (Value.slice none 0 0))
      have z2 := (BlkIs.cell HS10.out 2).trans (rfl : _ = some (Value.int .i64 0))
      have zf0 := HS10.out.froz 0
      have zf1 := HS10.out.froz 1
      have zf2 := HS10.out.froz 2
      go_wp2_with fail
      refine bodyPost_ret (res_RRead _ (((HS10.out.put 0 (.string ⟨#[]⟩)).put 1 (.slice none 0 0)).put 2 (.int .i64 0)) rfl) rfl ?_
      exact ⟨((HB10.out.setCell (Nat.le_refl _) _).setCell (Nat.le_refl _) _).setCell (Nat.le_refl _) _, .inl ⟨HN.out, rfl⟩⟩

    · have hsi : ¬ (rn : Int) < (hh : Int) + (tt : Int) := by omega
      have htp : 8 ≤ tt := by have := HTTL.out; unfold tailS cr dash at this; simp at this; omega
      have hca := HCA.out
      obtain ⟨ad, rfl⟩ : ∃ ad, A = some ad := by
        cases A with
        | none => have := hca.2.2 rfl; omega
        | some ad => exact ⟨ad, rfl⟩
      obtain ⟨q, hq⟩ : ∃ q, q + tt = rn := ⟨rn - tt, by omega⟩
      have hqi : (rn : Int) - (tt : Int) = (q : Int) := by omega
      have hq1 : hh ≤ q := by omega
      have hq2 : q ≤ c := by omega
      have hq3 : ¬ c = hh := by omega
      have HBT : Hid (Bts w10 w10.heap.size (some (ad.add hh)) ((r.drop hh).take (q - hh))) := Lib.hid ((((HRB.out.below HB10.out).more HB10.out.size).drop_eq hh).take _)
      have HBLN : Hid (((r.drop hh).take (q - hh)).length = q - hh) := Lib.hid (by rw [List.length_take, List.length_drop, HRN.out]; omega)
      generalize hb : (r.drop hh).take (q - hh) = bb at *
      have HBBD := Lib.hid hb
      have HQT := Lib.hid hq
      clear hb hq hsm hca
      go_wp2_with (first
        | (refine lapp5m (.const (.slice none 0 0)) (.tmp 100) rfl rfl (N := w10.heap.size) (l := []) (m := bb) rfl (Own5.nil _ _) rfl HBLN.out HBT.out (by simp; have := HBLN.out; omega) (Nat.le_refl _) ?_; intro v11 w11 h1 h2; obtain ⟨A11, c11, rfl, h3, h4⟩ := own_slice h1; have HO11 := Lib.hid h1; have HBX : Hid (Below w10.heap.size w10 w11) := Lib.hid ((Below.refl _ w10).grown h2 (Nat.le_refl _) (fun q hq => by cases hq)); have HE11 : Hid (BlkIs w11 (w.heap.size + 1) 34 #[.string sf, .slice A5 pn c5, .int .i64 v]) := Lib.hid ((HBX.out.block _ HE10.out.lt).trans HE10.out); have z0 := (BlkIs.cell HE11.out 0).trans (rfl : _ = some (Value.string sf)); have z1 := (BlkIs.cell HE11.out 1).trans (rfl : _ = some (Value.slice A5 pn c5)); have z2 := (BlkIs.cell HE11.out 2).trans (rfl : _ = some (Value.int .i64 v)); clear h1 h2 h3 h4)
        | fail)
      have HNX : Hid (w.heap.size < w10.heap.size) := Lib.hid HS10.out.lt
      have HB11 := Lib.hid (HB10.out.trans (HBX.out.mono HB10.out.size))
      have HO11e : Hid (w11.ownsRow (w.heap.size + 2) 9 1 (.slice A5 pn c5) pn (tv ps)) := Lib.hid (own_kept HO10.out HBX.out (Nat.le_refl _))
      have HRP := Lib.hid (rreport_any (l := bb) (HEV.out w11 HB11.out HE11.out HO11e.out) HS.out (Own5.bts HO11.out) c11 (by have := HBLN.out; have := HRL.out; have := HQT.out; omega) (HGT.out.below HB11.out HGT.out.lt))
      have HBBE : Hid (bb = (r.drop (headS (f, ps, v) n).length).take (r.length - (tailS n).length - (headS (f, ps, v) n).length)) := Lib.hid (by rw [HRN.out, HHH.out, HTTL.out, ← HBBD.out]; congr 1; have := HQT.out; omega)
      refine HRP.out.mono ?_
      rintro e w12 ⟨hb12, v12, rfl, hq⟩
      have HB12 := Lib.hid (HB11.out.trans (hb12.mono HB11.out.size))
      have HE12 : Hid (BlkIs w12 (w.heap.size + 1) 34 #[.string sf, .slice A5 pn c5, .int .i64 v]) := Lib.hid ((hb12.block _ HE11.out.lt).trans HE11.out)
      have HS12 : Hid (BlkIs w12 w.heap.size 34 #[.string ⟨#[]⟩, .slice none 0 0, .int .i64 0]) := Lib.hid ((hb12.block _ (Nat.lt_of_lt_of_le HS10.out.lt HBX.out.size)).trans ((HBX.out.block _ HS10.out.lt).trans HS10.out))
      have HO12 : Hid (w12.ownsRow (w.heap.size + 2) 9 1 (.slice A5 pn c5) pn (tv ps)) := Lib.hid (own_kept HO11e.out hb12 (Nat.le_refl _))
      have HO12b : Hid (Own5 w12 w10.heap.size (.slice A11 bb.length c11) bb) := Lib.hid (own_kept HO11.out hb12 (Nat.le_refl _))
      have hcvr := conv_str ((HRB.out.below HB12.out).more HB12.out.size) c
      rw [HRN.out, HSR.out] at hcvr
      clear hb12 z0 z1 z2 HRP
      rcases hq with ⟨h0, A12, c12, rfl, hbt⟩ | ⟨h0, rfl⟩
      · have hcv2 := conv_str hbt c12
        by_cases hrr : repS (f, ps, v) bb = r
        · have HRD := Lib.hid (read_is h0 HV.out.2.1 hrr)
          rw [h0]
          have hsq : str (repS (f, ps, v) bb) = sr := by rw [hrr]; exact HSR.out
          rw [hsq] at hcv2
          generalize (repS (f, ps, v) bb).length = rl at *
          clear hbt h0 hrr hsq
          have zf0 := HS12.out.froz 0
          have zf1 := HS12.out.froz 1
          have zf2 := HS12.out.froz 2
          have y0 := (BlkIs.cell HS12.out 0).trans (rfl : _ = some (Value.string ⟨#[]⟩))
          have y1 := (BlkIs.cell HS12.out 1).trans (rfl : _ = some (Value.slice none 0 0))
          have y2 := (BlkIs.cell HS12.out 2).trans (rfl : _ = some (Value.int .i64 0))
          have z0 := (BlkIs.cell HE12.out 0).trans (rfl : _ = some (Value.string sf))
          have z1 := (BlkIs.cell HE12.out 1).trans (rfl : _ = some (Value.slice A5 pn c5))
          have z2 := (BlkIs.cell HE12.out 2).trans (rfl : _ = some (Value.int .i64 v))
          have HFE := Lib.hid (((HE12.out.far (x := ⟨w.heap.size, 0, none⟩) (by show w.heap.size + 1 ≠ w.heap.size; omega) (.string sf)).far (x := ⟨w.heap.size, 1, none⟩) (by show w.heap.size + 1 ≠ w.heap.size; omega) (.slice A5 pn c5)).far (x := ⟨w.heap.size, 2, none⟩) (by show w.heap.size + 1 ≠ w.heap.size; omega) (.int .i64 v))
          have HFO := Lib.hid (own_far (own_far (own_far HO12.out (x := ⟨w.heap.size, 0, none⟩) (fun q hq => by have := (HO12.out.lt q hq).1; have := HNX.out; show q ≠ w.heap.size; omega) (.string sf)) (x := ⟨w.heap.size, 1, none⟩) (fun q hq => by have := (HO12.out.lt q hq).1; have := HNX.out; show q ≠ w.heap.size; omega) (.slice A5 pn c5)) (x := ⟨w.heap.size, 2, none⟩) (fun q hq => by have := (HO12.out.lt q hq).1; have := HNX.out; show q ≠ w.heap.size; omega) (.int .i64 v))
          have HFB := Lib.hid (own_far (own_far (own_far HO12b.out (x := ⟨w.heap.size, 0, none⟩) (fun q hq => by have := (HO12b.out.lt q hq).1; have := HNX.out; show q ≠ w.heap.size; omega) (.string sf)) (x := ⟨w.heap.size, 1, none⟩) (fun q hq => by have := (HO12b.out.lt q hq).1; have := HNX.out; show q ≠ w.heap.size; omega) (.slice A5 pn c5)) (x := ⟨w.heap.size, 2, none⟩) (fun q hq => by have := (HO12b.out.lt q hq).1; have := HNX.out; show q ≠ w.heap.size; omega) (.int .i64 v))
          have HFS := Lib.hid (((HS12.out.put 0 (.string sf)).put 1 (.slice A5 pn c5)).put 2 (.int .i64 v))
          have HFW := Lib.hid (((HB12.out.setCell (p := ⟨w.heap.size, 0, none⟩) (Nat.le_refl _) (.string sf)).setCell (p := ⟨w.heap.size, 1, none⟩) (Nat.le_refl _) (.slice A5 pn c5)).setCell (p := ⟨w.heap.size, 2, none⟩) (Nat.le_refl _) (.int .i64 v))
          go_wp2_with fail
          refine bodyPost_ret (res_RRead _ HFS.out rfl) rfl ?_
          exact ⟨HFW.out, .inr ⟨(f, ps, v), bb, _, A11, c11, HRD.out, rfl, HEV.out _ HFW.out HFE.out HFO.out, Own5.bts HFB.out⟩⟩
        · have HN := Lib.hid (fin_ne H1.out H2.out H3.out HTT.out HBBE.out (fun hc => hrr hc.2))
          rw [h0]
          have hsq : ((str (repS (f, ps, v) bb)).toList == sr.toList) = false := by
            rw [← HSR.out, Go.Lib.toList_data, Go.Lib.toList_data, str_data, str_data]
            exact beq_eq_false_iff_ne.2 hrr
          generalize str (repS (f, ps, v) bb) = sp at *
          generalize (repS (f, ps, v) bb).length = rl at *
          clear hbt h0 hrr
          have z0 := (BlkIs.cell HS12.out 0).trans (rfl : _ = some (Value.string ⟨#[]⟩))
          have z1 := (BlkIs.cell HS12.out 1).trans (rfl : _ = some (Value.slice none 0 0))
          have z2 := (BlkIs.cell HS12.out 2).trans (rfl : _ = some (Value.int .i64 0))
          have zf0 := HS12.out.froz 0
          have zf1 := HS12.out.froz 1
          have zf2 := HS12.out.froz 2
          go_wp2_with fail
          refine bodyPost_ret (res_RRead _ (((HS12.out.put 0 (.string ⟨#[]⟩)).put 1 (.slice none 0 0)).put 2 (.int .i64 0)) rfl) rfl ?_
          exact ⟨((HB12.out.setCell (Nat.le_refl _) _).setCell (Nat.le_refl _) _).setCell (Nat.le_refl _) _, .inl ⟨HN.out, rfl⟩⟩

      · have HN := Lib.hid (fin_ne H1.out H2.out H3.out HTT.out HBBE.out (fun hc => h0 hc.1))
        have h0' : ((errS (f, ps, v) bb : Nat) : Int) ≠ 0 := by omega
        generalize errS (f, ps, v) bb = er at *
        clear h0
        have z0 := (BlkIs.cell HS12.out 0).trans (rfl : _ = some (Value.string ⟨#[]⟩))
        have z1 := (BlkIs.cell HS12.out 1).trans (rfl : _ = some (Value.slice none 0 0))
        have z2 := (BlkIs.cell HS12.out 2).trans (rfl : _ = some (Value.int .i64 0))
        have zf0 := HS12.out.froz 0
        have zf1 := HS12.out.froz 1
        have zf2 := HS12.out.froz 2
        go_wp2_with fail
        refine bodyPost_ret (res_RRead _ (((HS12.out.put 0 (.string ⟨#[]⟩)).put 1 (.slice none 0 0)).put 2 (.int .i64 0)) rfl) rfl ?_
        exact ⟨((HB12.out.setCell (Nat.le_refl _) _).setCell (Nat.le_refl _) _).setCell (Nat.le_refl _) _, .inl ⟨HN.out, rfl⟩⟩

end Mi
end Go.Proofs.YtamekflgidfnfaaGreatDoor
namespace Go.Proofs.YtamekflgidfnfaaGreatDoor
set_option maxRecDepth 100000
namespace Mi
open Go.RowKit Go Go.Proofs.YtamekflgidfnfaaGreatDoor.Pa
attribute [local go_sem] Oper.semAt_some
/-- what a report is of; the error's number. -/
def ansS (l : L) : Env × L × Int := match readS l with
  | none => (([], [], 0), [], 110)
  | some (en, b) => (en, b, 0)
def AnsP (w : World) (l : L) (e : Ending) (w' : World) : Prop := Below w.heap.size w w' ∧ ∃ x A c, e = .returned (.tuple #[x, .slice A (ansS l).2.1.length c, .int .i64 (ansS l).2.2]) ∧ EnvAt w' w'.heap.size x (ansS l).1 ∧ Bts w' w'.heap.size A (ansS l).2.1
theorem ans_of {w' : World} {l : L} {e : Ending} (h : (readS l = none ∧ e = .returned (.tuple #[.agg #[.string ⟨#[]⟩, .slice none 0 0, .int .i64 0], .slice none 0 0, .int .i64 110])) ∨
    ∃ en b x A c, readS l = some (en, b) ∧ e = .returned (.tuple #[x, .slice A b.length c, .int .i64 0]) ∧ EnvAt w' w'.heap.size x en ∧ Bts w' w'.heap.size A b) :
    ∃ x A c, e = .returned (.tuple #[x, .slice A (ansS l).2.1.length c, .int .i64 (ansS l).2.2]) ∧ EnvAt w' w'.heap.size x (ansS l).1 ∧ Bts w' w'.heap.size A (ansS l).2.1 := by
  unfold ansS
  rcases h with ⟨h1, rfl⟩ | ⟨en, b, x, A, c, h1, rfl, h2, h3⟩
  · rw [h1]
    exact ⟨_, none, 0, rfl, ⟨none, 0, rfl, Cs.nil, Nat.le_refl _, Nat.zero_le _⟩, Cs.nil⟩
  · rw [h1]
    exact ⟨x, A, c, rfl, h2, h3⟩
set_option maxHeartbeats 3200000 in
theorem lreads_any {w : World} {A : Option Addr} {l : L} (h : Bts w w.heap.size A l) (c : Nat) (hc : l.length ≤ c) (hm : c ≤ maxLen) (hA : A = none → c = 0) (hT : GlT w) (hE : GlE w) (hG : GlM w) :
    Calls Tryz.prog 4 #[.slice A l.length c] w fun r w' => r = .returned (.bool true) ∧ Below w.heap.size w w' := by
  have HAW := Lib.hid (awake_any w hT hG)
  have HR1 : Hid (∀ X, Below w.heap.size w X → l.length ≤ 3000 → Calls Tryz.prog 10 #[.slice A l.length c] X (AnsP X l)) := Lib.hid fun X hX hl => (Read_any ((h.below hX).more hX.size) c hc hm hA (by omega) (hG.below hX hG.lt) (hT.below hX hT.lt) (hE.below hX hE.lt)).mono fun e w' hq => by
    obtain ⟨h1, h2⟩ := hq
    unfold ReadR at h2
    rw [read_same] at h2
    exact ⟨h1, ans_of h2⟩
  have HR2 : Hid (∀ X, Below w.heap.size w X → l.length ≤ 3000 → Calls Tryz.prog 11 #[.slice A l.length c] X (AnsP X l)) := Lib.hid fun X hX hl => (rread_any ((h.below hX).more hX.size) c hc hm hA hl (hT.below hX hT.lt)).mono fun e w' hq => ⟨hq.1, ans_of hq.2⟩
  have HSA := Lib.hid (fun (X : World) (x y : Value) (hx : EnvAt X X.heap.size x (ansS l).1) (hy : EnvAt X X.heap.size y (ansS l).1) => rsame_any hx hy)
  have HCV := Lib.hid (fun (X : World) A1 c1 (hb : Bts X X.heap.size A1 (ansS l).2.1) => conv_str hb c1)
  clear h hT hE hG hA
  unfold AnsP at HR1 HR2
  generalize hbl : (ansS l).2.1.length = bl at *
  generalize (ansS l).2.2 = er at *
  generalize str (ansS l).2.1 = sb at *
  generalize l.length = ln at *
  go_enter Tryz.func4, Tryz.ntmps4
  go_wp2_with fail
  refine HAW.out.mono ?_
  rintro r w1 ⟨rfl, b1⟩
  have B1 := Lib.hid b1
  clear b1 HAW
  by_cases hl : ln ≤ 3000
  · have hl2 : ¬ (3000 : Int) < (ln : Int) := by omega
    have HC1 := Lib.hid (HR1.out w1 B1.out hl)
    have HL := Lib.hid hl
    clear hl hbl
    go_wp2_with fail
    refine HC1.out.mono ?_
    rintro r w2 ⟨b2, x, A2, c2, rfl, hx, hb2⟩
    have B2 := Lib.hid (B1.out.trans (b2.mono B1.out.size))
    have HX := Lib.hid hx
    have HB2 := Lib.hid hb2
    obtain ⟨A3, c3, rfl, _, _, _⟩ := hx
    clear b2 hb2 HC1
    generalize str (ansS l).1.1 = sf at *
    generalize (ansS l).1.2.1.length = tn at *
    generalize (ansS l).1.2.2 = v at *
    have R3 := Lib.hid (BlkIs.new w2 34 #[.string sf, .slice A3 tn c3, .int .i64 v])
    have k3 : Hid (Below w2.heap.size w2 (w2.alloc (.cells #[.string sf, .slice A3 tn c3, .int .i64 v] 34))) := Lib.hid ((Below.refl _ _).alloc (Nat.le_refl _) _)
    have B3 := Lib.hid (B2.out.trans (k3.out.mono B2.out.size))
    have HC2 := Lib.hid (HR2.out _ B3.out HL.out)
    go_wp2_with fail
    refine HC2.out.mono ?_
    rintro r w4 ⟨b4, y, A4, c4, rfl, hy, hb4⟩
    have B4 := Lib.hid (B3.out.trans (b4.mono B3.out.size))
    have HY := Lib.hid hy
    have HB4 := Lib.hid hb4
    have R4 : Hid (BlkIs w4 w2.heap.size 34 #[.string sf, .slice A3 tn c3, .int .i64 v]) := Lib.hid ((b4.block _ R3.out.lt).trans R3.out)
    have hbl4 : Below w2.heap.size w2 w4 := k3.out.trans (b4.mono k3.out.size)
    have HX4 := Lib.hid ((HX.out.below hbl4).more hbl4.size)
    have HT4 := Lib.hid ((HB2.out.below hbl4).more hbl4.size)
    obtain ⟨A5, c5, hye, _, _, _⟩ := hy
    have hye2 := hye
    clear b4 hb4 HC2 hbl4 hye2
    subst hye
    generalize str (ansS l).1.1 = sf2 at *
    generalize (ansS l).1.2.1.length = tn2 at *
    generalize (ansS l).1.2.2 = v2 at *
    have R5 := BlkIs.new w4 34 #[.string sf2, .slice A5 tn2 c5, .int .i64 v2]
    have Q5 := R4.out.alloc (.cells #[.string sf2, .slice A5 tn2 c5, .int .i64 v2] 34)
    have b5 : Below w4.heap.size w4 (w4.alloc (.cells #[.string sf2, .slice A5 tn2 c5, .int .i64 v2] 34)) := (Below.refl _ _).alloc (Nat.le_refl _) _
    have HC3 := Lib.hid (HSA.out _ _ _ ((HX4.out.below b5).more b5.size) ((HY.out.below b5).more b5.size))
    have B5 := Lib.hid (B4.out.trans (b5.mono B4.out.size))
    have HT5 := Lib.hid ((HT4.out.below b5).more b5.size)
    have HB5 := Lib.hid ((HB4.out.below b5).more b5.size)
    have z0 := (BlkIs.cell Q5 0).trans (rfl : _ = some (Value.string sf))
    have z1 := (BlkIs.cell Q5 1).trans (rfl : _ = some (Value.slice A3 tn c3))
    have z2 := (BlkIs.cell Q5 2).trans (rfl : _ = some (Value.int .i64 v))
    have y0 := (BlkIs.cell R5 0).trans (rfl : _ = some (Value.string sf2))
    have y1 := (BlkIs.cell R5 1).trans (rfl : _ = some (Value.slice A5 tn2 c5))
    have y2 := (BlkIs.cell R5 2).trans (rfl : _ = some (Value.int .i64 v2))
    clear Q5 R5 b5
    go_wp2_with fail
    refine HC3.out.mono ?_
    rintro r w5 ⟨rfl, b6⟩
    have B6 := Lib.hid (B5.out.trans (b6.mono B5.out.size))
    have hv1 := HCV.out w5 A2 c2 ((HT5.out.below b6).more b6.size)
    have hv2 := HCV.out w5 A4 c4 ((HB5.out.below b6).more b6.size)
    clear b6 HC3 z0 z1 z2 y0 y1 y2
    go_wp2_with fail
    go_ret
    exact ⟨by first | rfl | simp, B6.out⟩
  · have hl2 : (3000 : Int) < (ln : Int) := by omega
    go_wp2_with fail
    go_ret
    exact ⟨by first | rfl | simp [hl2], B1.out⟩
end Mi
end Go.Proofs.YtamekflgidfnfaaGreatDoor
