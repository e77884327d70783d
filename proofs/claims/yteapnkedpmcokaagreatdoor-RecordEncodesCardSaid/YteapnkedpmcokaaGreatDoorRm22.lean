/- EnTx. Conditions: as stated at each. -/
import Derived.Test.YteapnkedpmcokaaGreatDoorRm21
import Derived.Deep.QuietTactic
/- Texts, envelopes, messages in memory. Conditions: none. -/
namespace Go.Proofs.YteapnkedpmcokaaGreatDoor
set_option maxRecDepth 100000
namespace En
open Go.RowKit Go Go.Proofs.YteapnkedpmcokaaGreatDoor.Pa
attribute [local go_sem] Oper.semAt_some
theorem tx_add0 (a : Addr) : a.add 0 = a := by simp [Addr.add]
theorem tx_addn (g o k : Nat) : (⟨g, o, none⟩ : Addr).add k = ⟨g, o + k, none⟩ := by
  unfold Addr.add
  split
  · next e => subst e; rfl
  · rfl
/-- a slice of these texts. -/
def Tx (w : World) (B : Nat) (A : Option Addr) (ps : List L) : Prop := Cs w B A (tv ps)
theorem Tx.below {w w' : World} {B : Nat} {A : Option Addr} {ps : List L} (h : Tx w B A ps) (hb : Below B w w') : Tx w' B A ps := Cs.below h hb
theorem Tx.more {w : World} {B B' : Nat} {A : Option Addr} {ps : List L} (h : Tx w B A ps) (hB : B ≤ B') : Tx w B' A ps := Cs.more h hB
theorem tv_get (ps : List L) (k : Nat) (h : k < ps.length) : (tv ps)[k]? = some (.string (str (ps.getD k []))) := by
  simp [tv, List.getD, h]
theorem Tx.els {w : World} {B : Nat} {A : Option Addr} {ps : List L} (h : Tx w B A ps) : ∀ k, k < ps.length → ∃ g o, A = some ⟨g, o, none⟩ ∧ g < B ∧ ∀ X, Below B w X → X.cell? ⟨g, o + k, none⟩ = some (.string (str (ps.getD k []))) := fun k hk => by
  obtain ⟨ad0, e0, hb0, hc0⟩ := h 0 _ (tv_get ps 0 (by omega))
  rw [tx_add0] at hc0
  have hsp := World.cell?_spot hc0
  obtain ⟨g, o, sp⟩ := ad0
  obtain rfl : sp = none := hsp
  refine ⟨g, o, e0, hb0, fun X hX => ?_⟩
  obtain ⟨ad, e, hb, hc⟩ := h k _ (tv_get ps k hk)
  rw [e0] at e
  injection e with e
  subst e
  rw [tx_addn] at hc
  exact (hX.cell (p := ⟨g, o + k, none⟩) hb).trans hc
/-- a row of texts of the call's own. -/
def OwnT (w : World) (N : Nat) (v : Value) (ls : List L) : Prop := w.ownsRow N 9 1 v ls.length (tv ls)
theorem tv_append (a b : List L) : tv (a ++ b) = tv a ++ tv b := by simp [tv]
theorem OwnT.nil (w : World) (N : Nat) : OwnT w N (.slice none 0 0) [] := World.ownsRow_nil w N 9 1
theorem OwnT.tx {w : World} {N n c : Nat} {A : Option Addr} {ps : List L} (h : OwnT w N (.slice A n c) ps) : Tx w w.heap.size A ps := by
  obtain ⟨A', c', e, _, _⟩ := own_slice h
  injection e with e1 e2 e3
  subst e1; subst e2; subst e3
  exact Cs.of_own h
theorem OwnT.slice {w : World} {N : Nat} {v : Value} {ps : List L} (h : OwnT w N v ps) : ∃ A c, v = .slice A ps.length c ∧ ps.length ≤ c ∧ c ≤ maxLen := own_slice h
theorem OwnT.below {w w' : World} {N : Nat} {v : Value} {ps : List L} (h : OwnT w N v ps) (hb : Below w.heap.size w w') : OwnT w' N v ps := own_kept h hb (Nat.le_refl _)
theorem OwnT.more {w : World} {N M : Nat} {v : Value} {ps : List L} (h : OwnT w N v ps) (hM : M ≤ N) : OwnT w M v ps := own_more h hM
theorem OwnT.low {X : World} {N : Nat} {v : Value} {ls : List L} (h : OwnT X N v ls) : ∀ k, v.ownBlock = some k → N ≤ k := fun k hk => (h.lt k hk).1
theorem tx_lit (w : World) (C : Array Value) (ps : List L) (h : C.toList = tv ps) (fr : Nat × Nat) : Tx (w.alloc (.cells C 9 fr)) (w.heap.size + 1) (some ⟨w.heap.size, 0, none⟩) ps := fun j u hj => by
  refine ⟨_, rfl, Nat.lt_succ_self _, ?_⟩
  rw [tx_addn, Nat.zero_add, cell_of_row _ w.heap.size j C _ fr (heap_alloc_new w _), ← Array.getElem?_toList, h]
  exact hj
/-- the same in a plain list of operations. -/
theorem lappTx {w : World} {ops : Array Oper} {rest : List Oper} {o : Oper} {a : Act} {Q : Exit → Act → World → Prop} (s x : Operand)
    (ho : o.op = .call { callee := .builtin .append, args := #[s, x], argTypes := #[22, 22] }) (hgd : o.guard = none)
    {N : Nat} {v : Value} {ps qs : List L} (hs : a.eval s = v) (hown : OwnT w N v ps)
    {B : Nat} {A : Option Addr} {m c : Nat} (hx : a.eval x = .slice A m c) (hr : Tx w B A qs) (hm : qs.length = m) (h63 : ps.length + m ≤ 1000000000) (hN : N ≤ w.heap.size)
    (h : ∀ v' w', OwnT w' N v' (ps ++ qs) → w.grownBy w' v.ownBlock → wpList Tryz.prog ops Q rest (a.put o.dst v') w') : wpList Tryz.prog ops Q (o :: rest) a w := by
  obtain ⟨i, hi, hz, h0, h1⟩ := info_parts info9
  refine wpList_plain hgd fun _ hK => wp_app s x ho Tryz.underlying22 hi hz h0 h1 rfl hs hown hx hr (by rw [tv_length]; exact hm) (tv_one qs) h63 (by decide) hN fun v' w' h2 h3 => hK _ _ (h v' w' ?_ h3)
  unfold OwnT
  rw [List.length_append, hm, tv_append]
  exact h2
theorem own_tn {p : Nat → Prop} {w w' : World} {N sz n : Nat} {e : TypeId} {v : Value} {xs : List Value} (h : w.ownsRow N e sz v n xs) (ht : Tn p w w') (hp : ∀ i, N ≤ i → ¬ p i) : w'.ownsRow N e sz v n xs := by
  refine ⟨h.1, ?_⟩
  rcases h.2 with h0 | ⟨g, cap, cur, rfl, hn, hh, rest⟩
  · exact .inl h0
  · exact .inr ⟨g, cap, cur, rfl, hn, (ht.block g (Array.getElem?_eq_some_iff.1 hh).1 (hp g hn)).trans hh, rest⟩
abbrev Env := L × List L × Int
theorem all_mail {ps : List L} {n : Nat} (hn : ps.length = n) (h : ∀ j, j < n → mailS (ps.getD j []) = true) : ps.all mailS = true := by
  rw [List.all_eq_true]
  intro x hx
  obtain ⟨j, hj, e⟩ := List.mem_iff_getElem.1 hx
  have := h j (by omega)
  rw [← e]
  simpa [List.getD, hj] using this
theorem not_mail {ps : List L} {n j : Nat} (hn : ps.length = n) (hj : j < n) (h : mailS (ps.getD j []) = false) : ps.all mailS = false := by
  rw [List.all_eq_false]
  refine ⟨ps.getD j [], ?_, by rw [h]; simp⟩
  have : j < ps.length := by omega
  simp [List.getD, this]
/-- an envelope's value, and what it is. -/
def EnvAt (w : World) (B : Nat) (x : Value) (e : Env) : Prop := ∃ A c, x = .agg #[.string (str e.1), .slice A e.2.1.length c, .int .i64 e.2.2] ∧ Tx w B A e.2.1 ∧ e.2.1.length ≤ c ∧ c ≤ maxLen
theorem EnvAt.below {w w' : World} {B : Nat} {x : Value} {e : Env} (h : EnvAt w B x e) (hb : Below B w w') : EnvAt w' B x e := by
  obtain ⟨A, c, h1, h2, h3⟩ := h
  exact ⟨A, c, h1, h2.below hb, h3⟩
theorem EnvAt.more {w : World} {B B' : Nat} {x : Value} {e : Env} (h : EnvAt w B x e) (hB : B ≤ B') : EnvAt w B' x e := by
  obtain ⟨A, c, h1, h2, h3⟩ := h
  exact ⟨A, c, h1, h2.more hB, h3⟩
/-- what an envelope may be. -/
def envOk (e : Env) : Bool := envB e.1 e.2.1 e.2.2
/-- what the document's Envelope asks. -/
def renvB (e : Env) : Bool := (e.1.isEmpty || mailS e.1) && (decide (1 ≤ e.2.1.length) && (decide (0 ≤ e.2.2) && e.2.1.all mailS))
/-- an envelope of bounded size. -/
structure SmallE (e : Env) : Prop where
  fl : e.1.length ≤ 100000
  tl : ∀ k, (e.2.1.getD k []).length ≤ 140737488355328
  nl : e.2.1.length ≤ 1000
  v0 : -9223372036854775808 ≤ e.2.2
  v1 : e.2.2 < 9223372036854775808
set_option maxHeartbeats 3200000 in
theorem renvelope_any {w : World} {x : Value} {e : Env} (h : EnvAt w w.heap.size x e) (hs : SmallE e) :
    Calls Tryz.prog 53 #[x] w fun r w' => r = .returned (.bool (renvB e)) ∧ Below w.heap.size w w' := by
  obtain ⟨A, c, rfl, hT, hc1, hc2⟩ := h
  obtain ⟨ff, ps, v⟩ := e
  obtain ⟨s1, s2, s3, s4, s5⟩ := hs
  simp only at hT hc1 hc2 s1 s2 s3 s4 s5 ⊢
  have HMB := Lib.hid (fun X => rmailbox_any ff X (by omega))
  have HMT := Lib.hid (fun k X => rmailbox_any (ps.getD k []) X (by have := s2 k; omega))
  have HOK : Hid (renvB (ff, ps, v) = ((ff.isEmpty || mailS ff) && (decide (1 ≤ ps.length) && (decide (0 ≤ v) && ps.all mailS)))) := Lib.hid rfl
  have hse := str_empty ff
  have HEL := Lib.hid hT.els
  have HALL := Lib.hid (fun n (hn : ps.length = n) => all_mail hn)
  have HBAD := Lib.hid (fun n j (hn : ps.length = n) => not_mail (j := j) hn)
  have hqn := BlkIs.new w 24 #[.string (str ff), .slice A ps.length c, .int .i64 v]
  have han : Below w.heap.size w (w.alloc (.cells #[.string (str ff), .slice A ps.length c, .int .i64 v] 24)) := (Below.refl _ _).alloc (Nat.le_refl _) _
  clear hT s1 s2
  generalize ff.isEmpty = fe at *
  generalize mailS ff = mb at *
  generalize renvB (ff, ps, v) = res at *
  generalize str ff = s0 at *
  generalize hn : ps.length = n at *
  have HALL2 := Lib.hid (HALL.out n rfl)
  have HBAD2 := Lib.hid (fun j => HBAD.out n j rfl)
  clear HALL HBAD hn
  have z0c := (BlkIs.cell hqn 0).trans (rfl : _ = some (Value.string s0))
  have z1c := (BlkIs.cell hqn 1).trans (rfl : _ = some (Value.slice A n c))
  have z2c := (BlkIs.cell hqn 2).trans (rfl : _ = some (Value.int .i64 v))
  have HB0 := Lib.hid han
  clear hqn han
  go_enter Tryz.func53, Tryz.ntmps53
  cases fe with
  | true =>
    rw [Bool.true_or, Bool.true_and] at HOK
    by_cases hn1 : n < 1
    · have HR : Hid (res = false) := Lib.hid (by rw [HOK.out, decide_eq_false (by omega : ¬ 1 ≤ n)]; simp)
      have zz : (n : Int) < 1 := by omega
      go_wp2_with fail
      go_ret
      exact ⟨by rw [HR.out]; rfl, HB0.out⟩
    · have zz : ¬ (n : Int) < 1 := by omega
      by_cases hv : v < 0
      · have HR : Hid (res = false) := Lib.hid (by rw [HOK.out, decide_eq_false (by omega : ¬ 0 ≤ v)]; simp)
        go_wp2_with fail
        go_ret
        exact ⟨by rw [HR.out]; rfl, HB0.out⟩
      · have HRA : Hid (res = ps.all mailS) := Lib.hid (by rw [HOK.out, decide_eq_true (by omega : 1 ≤ n), decide_eq_true (by omega : 0 ≤ v)]; simp)
        go_wp2_with fail
        go_loopw [28] (fun i wr => ∃ k : Nat, k ≤ n ∧ i = .int .i64 (k : Nat) ∧ Hid (∀ j, j < k → mailS (ps.getD j []) = true) ∧ Hid (Below w.heap.size w wr)) (fun i _ => n + 1 - (intOf i).toNat)
        case atStart => exact ⟨0, Nat.zero_le _, rfl, Lib.hid fun j hj => absurd hj (Nat.not_lt_zero _), HB0⟩
        case round =>
          obtain ⟨k, hk, rfl, HJ, HBK⟩ := hrel
          by_cases hlt : k < n
          · obtain ⟨g, o, rfl, hg, hX⟩ := HEL.out k hlt
            have hcell := hX wr HBK.out
            have HM := Lib.hid (HMT.out k)
            have hkn : (k : Int) < (n : Int) := by omega
            clear hX
            generalize hms : mailS (ps.getD k []) = mk at *
            have HMS := Lib.hid hms
            clear hms
            generalize str (ps.getD k []) = sk at *
            cases mk with
            | true =>
              go_wp2_with (first
                | (go_at_call 45; refine (HM.out _).mono ?_; rintro e w3 ⟨rfl, hb3⟩)
                | fail)
              have HB3 := Lib.hid (HBK.out.trans (hb3.mono HBK.out.size))
              go_roundw
              case rel =>
                refine ⟨k + 1, by omega, by go_num, Lib.hid fun j hj => ?_, HB3⟩
                rcases Nat.lt_or_ge j k with h | h
                · exact HJ.out j h
                · obtain rfl : j = k := by omega
                  exact HMS.out
              case measure => simp [intOf]; omega
            | false =>
              go_wp2_with (first
                | (go_at_call 45; refine (HM.out _).mono ?_; rintro e w3 ⟨rfl, hb3⟩)
                | fail)
              go_ret
              exact ⟨by rw [HRA.out, HBAD2.out k hlt HMS.out]; rfl, HBK.out.trans (hb3.mono HBK.out.size)⟩
          · obtain rfl : k = n := by omega
            have hkn : ¬ (k : Int) < (k : Int) := by omega
            go_wp2_with fail
            go_ret
            exact ⟨by rw [HRA.out, HALL2.out HJ.out]; rfl, HBK.out⟩
  | false =>
    rw [Bool.false_or] at HOK
    go_wp2_with fail
    refine (HMB.out _).mono ?_
    rintro e w2 ⟨rfl, hb2⟩
    have HB2 := Lib.hid (HB0.out.trans (hb2.mono HB0.out.size))
    have z1d : w2.cell? ⟨w.heap.size, 1, none⟩ = _ := (hb2.cell (p := ⟨w.heap.size, 1, none⟩) (by simp)).trans z1c
    have z2d : w2.cell? ⟨w.heap.size, 2, none⟩ = _ := (hb2.cell (p := ⟨w.heap.size, 2, none⟩) (by simp)).trans z2c
    clear hb2
    cases mb with
    | false =>
      have HR : Hid (res = false) := Lib.hid (by rw [HOK.out]; rfl)
      go_wp2_with fail
      go_ret
      exact ⟨by rw [HR.out]; rfl, HB2.out⟩
    | true =>
      rw [Bool.true_and] at HOK
      by_cases hn1 : n < 1
      · have HR : Hid (res = false) := Lib.hid (by rw [HOK.out, decide_eq_false (by omega : ¬ 1 ≤ n)]; simp)
        have zz : (n : Int) < 1 := by omega
        go_wp2_with fail
        go_ret
        exact ⟨by rw [HR.out]; rfl, HB2.out⟩
      · have zz : ¬ (n : Int) < 1 := by omega
        by_cases hv : v < 0
        · have HR : Hid (res = false) := Lib.hid (by rw [HOK.out, decide_eq_false (by omega : ¬ 0 ≤ v)]; simp)
          go_wp2_with fail
          go_ret
          exact ⟨by rw [HR.out]; rfl, HB2.out⟩
        · have HRA : Hid (res = ps.all mailS) := Lib.hid (by rw [HOK.out, decide_eq_true (by omega : 1 ≤ n), decide_eq_true (by omega : 0 ≤ v)]; simp)
          go_wp2_with fail
          go_loopw [28] (fun i wr => ∃ k : Nat, k ≤ n ∧ i = .int .i64 (k : Nat) ∧ Hid (∀ j, j < k → mailS (ps.getD j []) = true) ∧ Hid (Below w.heap.size w wr)) (fun i _ => n + 1 - (intOf i).toNat)
          case atStart => exact ⟨0, Nat.zero_le _, rfl, Lib.hid fun j hj => absurd hj (Nat.not_lt_zero _), HB2⟩
          case round =>
            obtain ⟨k, hk, rfl, HJ, HBK⟩ := hrel
            by_cases hlt : k < n
            · obtain ⟨g, o, rfl, hg, hX⟩ := HEL.out k hlt
              have hcell := hX wr HBK.out
              have HM := Lib.hid (HMT.out k)
              have hkn : (k : Int) < (n : Int) := by omega
              clear hX
              generalize hms : mailS (ps.getD k []) = mk at *
              have HMS := Lib.hid hms
              clear hms
              generalize str (ps.getD k []) = sk at *
              cases mk with
              | true =>
                go_wp2_with (first
                  | (go_at_call 45; refine (HM.out _).mono ?_; rintro e w3 ⟨rfl, hb3⟩)
                  | fail)
                have HB3 := Lib.hid (HBK.out.trans (hb3.mono HBK.out.size))
                go_roundw
                case rel =>
                  refine ⟨k + 1, by omega, by go_num, Lib.hid fun j hj => ?_, HB3⟩
                  rcases Nat.lt_or_ge j k with h | h
                  · exact HJ.out j h
                  · obtain rfl : j = k := by omega
                    exact HMS.out
                case measure => simp [intOf]; omega
              | false =>
                go_wp2_with (first
                  | (go_at_call 45; refine (HM.out _).mono ?_; rintro e w3 ⟨rfl, hb3⟩)
                  | fail)
                go_ret
                exact ⟨by rw [HRA.out, HBAD2.out k hlt HMS.out]; rfl, HBK.out.trans (hb3.mono HBK.out.size)⟩
            · obtain rfl : k = n := by omega
              have hkn : ¬ (k : Int) < (k : Int) := by omega
              go_wp2_with fail
              go_ret
              exact ⟨by rw [HRA.out, HALL2.out HJ.out]; rfl, HBK.out⟩
/-- a message's value. -/
def MsgAt (w : World) (B : Nat) (x : Value) (m : M) : Prop := ∃ A c Ab cb, x = .agg #[.int .i64 m.id, .string (str m.cls), .string (str m.fr), .slice A m.tos.length c, .int .i64 m.at_, .slice Ab m.body.length cb] ∧ Tx w B A m.tos ∧ m.tos.length ≤ c ∧ c ≤ maxLen ∧ Bts w B Ab m.body ∧ m.body.length ≤ cb ∧ cb ≤ maxLen ∧ True
theorem MsgAt.below {w w' : World} {B : Nat} {x : Value} {m : M} (h : MsgAt w B x m) (hb : Below B w w') : MsgAt w' B x m := by
  obtain ⟨A, c, Ab, cb, h1, h2, h3, h4, h5, h6⟩ := h
  exact ⟨A, c, Ab, cb, h1, h2.below hb, h3, h4, h5.below hb, h6⟩
theorem MsgAt.more {w : World} {B B' : Nat} {x : Value} {m : M} (h : MsgAt w B x m) (hB : B ≤ B') : MsgAt w B' x m := by
  obtain ⟨A, c, Ab, cb, h1, h2, h3, h4, h5, h6⟩ := h
  exact ⟨A, c, Ab, cb, h1, h2.more hB, h3, h4, h5.more hB, h6⟩
/-- a message of bounded size. -/
structure SmallM (m : M) : Prop where
  cl : m.cls.length ≤ 100000
  fl : m.fr.length ≤ 100000
  tl : ∀ k, (m.tos.getD k []).length ≤ 140737488355328
  nl : m.tos.length ≤ 1000
  v0 : -9223372036854775808 ≤ m.at_
  v1 : m.at_ < 9223372036854775808
  i0 : -9223372036854775808 ≤ m.id
  i1 : m.id < 9223372036854775808
  bl : m.body.length ≤ 1000000
/-- what Few answers. -/
def FewP (w : World) (m : M) (r : Ending) (w' : World) : Prop := (∃ b : Bool, r = .returned (.bool b) ∧ (b = true → m.cls.length ≤ 50 ∧ m.fr.length ≤ 300 ∧ (m.tos.length ≤ 10 ∨ m.tos.length = 101) ∧ m.body.length ≤ 1000)) ∧ Below w.heap.size w w'
set_option maxHeartbeats 3200000 in
theorem few_any {w : World} {B : Nat} {x : Value} {m : M} (h : MsgAt w B x m) (hf : m.fr.length ≤ 1000000000000000000) (hc : m.cls.length ≤ 1000000000000000000) :
    Calls Tryz.prog 21 #[x] w (FewP w m) := by
  obtain ⟨A, c, Ab, cb, rfl, _, h3, h4, _, h6, h7, _⟩ := h
  obtain ⟨id, cls, fr, to, t, body⟩ := m
  dsimp only at *
  have hqn := BlkIs.new w 27 #[.int .i64 id, .string (str cls), .string (str fr), .slice A to.length c, .int .i64 t, .slice Ab body.length cb]
  have HB0 : Hid (Below w.heap.size w (w.alloc (.cells #[.int .i64 id, .string (str cls), .string (str fr), .slice A to.length c, .int .i64 t, .slice Ab body.length cb] 27))) := Lib.hid ((Below.refl _ _).alloc (Nat.le_refl _) _)
  have hs1 := bstr_size cls
  have hs2 := bstr_size fr
  generalize str cls = sc at *
  generalize str fr = sf at *
  generalize hn1 : cls.length = n1 at *
  generalize hn2 : fr.length = n2 at *
  generalize hn3 : to.length = n3 at *
  generalize hn4 : body.length = n4 at *
  have HN := Lib.hid (And.intro hn1 (And.intro hn2 (And.intro hn3 hn4)))
  clear hn1 hn2 hn3 hn4
  have z1c := (BlkIs.cell hqn 1).trans (rfl : _ = some (Value.string sc))
  have z2c := (BlkIs.cell hqn 2).trans (rfl : _ = some (Value.string sf))
  have z3c := (BlkIs.cell hqn 3).trans (rfl : _ = some (Value.slice A n3 c))
  have z5c := (BlkIs.cell hqn 5).trans (rfl : _ = some (Value.slice Ab n4 cb))
  clear hqn
  go_enter Tryz.func21, Tryz.ntmps21
  by_cases b1 : sc.size ≤ 50
  · by_cases b2 : sf.size ≤ 300
    · by_cases b3 : (n3 : Int) ≤ 10
      · by_cases b4 : (n4 : Int) ≤ 1000
        · go_wp2_with fail
          go_ret
          exact ⟨⟨_, rfl, fun _ => by have := HN.out; dsimp only; omega⟩, HB0.out⟩
        · go_wp2_with fail
          go_ret
          exact ⟨⟨false, rfl, fun e => by cases e⟩, HB0.out⟩
      · by_cases b5 : n3 = 101
        · subst b5
          by_cases b4 : (n4 : Int) ≤ 1000
          · go_wp2_with fail
            go_ret
            exact ⟨⟨_, rfl, fun _ => by have := HN.out; dsimp only; omega⟩, HB0.out⟩
          · go_wp2_with fail
            go_ret
            exact ⟨⟨false, rfl, fun e => by cases e⟩, HB0.out⟩
        · have b6 : ¬ (n3 : Int) = 101 := by omega
          go_wp2_with fail
          go_ret
          exact ⟨⟨false, rfl, fun e => by cases e⟩, HB0.out⟩
    · go_wp2_with fail
      go_ret
      exact ⟨⟨false, rfl, fun e => by cases e⟩, HB0.out⟩
  · go_wp2_with fail
    go_ret
    exact ⟨⟨false, rfl, fun e => by cases e⟩, HB0.out⟩
/-- a message as it may come in. -/
structure InM (m : M) : Prop where
  cl : m.cls.length ≤ 140737488355328
  fl : m.fr.length ≤ 140737488355328
  tl : ∀ k, (m.tos.getD k []).length ≤ 140737488355328
  v0 : -9223372036854775808 ≤ m.at_
  v1 : m.at_ < 9223372036854775808
  i0 : -9223372036854775808 ≤ m.id
  i1 : m.id < 9223372036854775808
theorem InM.small {m : M} (h : InM m) (hf : m.cls.length ≤ 50 ∧ m.fr.length ≤ 300 ∧ (m.tos.length ≤ 10 ∨ m.tos.length = 101) ∧ m.body.length ≤ 1000) : SmallM m :=
  ⟨by omega, by omega, h.tl, by omega, h.v0, h.v1, h.i0, h.i1, by omega⟩
end En
end Go.Proofs.YteapnkedpmcokaaGreatDoor
