/- mime.reported. Conditions: as stated at each. -/
import Derived.Test.YtamekflgidfnfaaGreatDoorMiRRep
namespace Go.Proofs.YtamekflgidfnfaaGreatDoor
set_option maxRecDepth 100000
namespace Mi
open Go.RowKit Go Go.Proofs.YtamekflgidfnfaaGreatDoor.Pa
attribute [local go_sem] Oper.semAt_some
/-- texts behind texts. -/
theorem appTs {w : World} {ops : Array Oper} {rest : List Oper} {o : Oper} {a : Act} {Q : Exit → Act → World → Prop} (s x : Operand)
    (ho : o.op = .call { callee := .builtin .append, args := #[s, x], argTypes := #[32, 32] }) (hgd : o.guard = none)
    {N : Nat} {v : Value} {ps qs : List L} (hs : a.eval s = v) (hown : w.ownsRow N 9 1 v ps.length (tv ps))
    {B : Nat} {A : Option Addr} {c : Nat} (hx : a.eval x = .slice A qs.length c) (hr : Tx w B A qs) (h63 : ps.length + qs.length ≤ 1000000000) (hN : N ≤ w.heap.size)
    (h : ∀ v' w', w'.ownsRow N 9 1 v' (ps ++ qs).length (tv (ps ++ qs)) → w.grownBy w' v.ownBlock → wpList Tryz.prog ops Q rest (a.put o.dst v') w') : wpList Tryz.prog ops Q (o :: rest) a w := by
  obtain ⟨i, hi, hz, h0, h1⟩ := info_parts info9
  refine wpList_plain hgd fun _ hK => wp_app s x ho Tryz.underlying32 hi hz h0 h1 rfl hs hown hx hr (tv_length qs) (tv_one qs) h63 (by decide) hN fun v' w' h2 h3 => hK _ _ (h v' w' ?_ h3)
  rw [List.length_append, show tv (ps ++ qs) = tv ps ++ tv qs by simp [tv]]
  exact h2
theorem tx_lit (w : World) (cs : Array Value) (ps : List L) (h : cs.toList = tv ps) : Tx (w.alloc (.cells cs 9)) (w.heap.size + 1) (some ⟨w.heap.size, 0, none⟩) ps := fun j u hj =>
  ⟨_, rfl, by simp, World.news_of_block (heap_alloc_new w _) j u (by rw [h]; exact hj)⟩
theorem own_lit (w : World) (cs : Array Value) (ps : List L) (h : cs.toList = tv ps) (hm : ps.length ≤ maxLen) : (w.alloc (.cells cs 9)).ownsRow w.heap.size 9 1 (.slice (some ⟨w.heap.size, 0, none⟩) ps.length ps.length) ps.length (tv ps) := by
  rw [← h]
  exact World.ownsRow_lit w cs ps.length (Nat.le_refl _) hm (by rw [Nat.mul_one, ← Array.length_toList, h, tv_length])
theorem three_rows {w : World} {B g : Nat} {A A' A2 : Option Addr} {l l' l2 : L} {c c' c2 : Nat} (h : Bts w B A l) (h' : Bts w B A' l') (h2 : Bts w B A2 l2) (hl : l.length ≤ c) (hc : c ≤ maxLen) (hl' : l'.length ≤ c') (hc' : c' ≤ maxLen) (hl2 : l2.length ≤ c2) (hc2 : c2 ≤ maxLen)
    (hg : g < B) (k0 : w.cell? ⟨g, 0, none⟩ = some (.slice A l.length c)) (k1 : w.cell? ⟨g, 1, none⟩ = some (.slice A' l'.length c')) (k2 : w.cell? ⟨g, 2, none⟩ = some (.slice A2 l2.length c2)) : Rws w B (some ⟨g, 0, none⟩) [l, l', l2] := fun k r hk => by
  match k with
  | 0 =>
    obtain rfl : l = r := by simpa using hk
    exact ⟨_, A, c, rfl, hg, by rw [add_at]; exact k0, hl, hc, h⟩
  | 1 =>
    obtain rfl : l' = r := by simpa using hk
    exact ⟨_, A', c', rfl, hg, by rw [add_at]; exact k1, hl', hc', h'⟩
  | 2 =>
    obtain rfl : l2 = r := by simpa using hk
    exact ⟨_, A2, c2, rfl, hg, by rw [add_at]; exact k2, hl2, hc2, h2⟩
  | k + 3 => simp at hk
/-- the lines ahead of the recipients; a recipient's; those behind. -/
def txt0 (e : Env) (n : L) : List L := [([77, 73, 77, 69, 45, 86, 101, 114, 115, 105, 111, 110, 58, 32, 49, 46, 48] : L), ([67, 111, 110, 116, 101, 110, 116, 45, 84, 121, 112, 101, 58, 32, 109, 117, 108, 116, 105, 112, 97, 114, 116, 47, 109, 105, 120, 101, 100, 59, 32, 98, 111, 117, 110, 100, 97, 114, 121, 61] : L) ++ n, [], ([45, 45] : L) ++ n, ([67, 111, 110, 116, 101, 110, 116, 45, 84, 121, 112, 101, 58, 32, 116, 101, 120, 116, 47, 112, 108, 97, 105, 110] : L), [], ([83, 101, 110, 100, 101, 114, 58, 32] : L) ++ e.1, ([82, 101, 99, 101, 105, 118, 101, 100, 58, 32] : L) ++ Lib.itoa e.2.2]
def rcp (t : L) : L := ([82, 101, 99, 105, 112, 105, 101, 110, 116, 58, 32] : L) ++ t
def txt2 (n : L) : List L := [([45, 45] : L) ++ n, ([67, 111, 110, 116, 101, 110, 116, 45, 84, 121, 112, 101, 58, 32, 109, 101, 115, 115, 97, 103, 101, 47, 114, 102, 99, 56, 50, 50] : L), []]
theorem txt_head (e : Env) (n : L) : linS ((txt0 e n ++ e.2.1.map rcp) ++ txt2 n) = headS e n := by
  unfold linS
  rw [List.flatMap_append, List.flatMap_append, List.flatMap_map]
  have : (e.2.1.flatMap fun a => rcp a ++ cr) = tosS e.2.1 := by
    unfold tosS rcp seg4
    congr 1
  rw [this]
  unfold headS txt0 txt2 seg0 seg1 seg2 seg3 seg5 cr dash
  simp
theorem txt_tail (n : L) : linS [[], ([45, 45] ++ n) ++ [45, 45]] = tailS n := by
  unfold linS tailS cr dash
  simp
theorem map_take (ps : List L) (k : Nat) (h : k < ps.length) : (ps.take (k + 1)).map rcp = (ps.take k).map rcp ++ [rcp (ps.getD k [])] := by
  rw [List.take_succ_eq_append_getElem h, List.map_append]
  simp [List.getD, h]
theorem own_row {w : World} {N s n : Nat} {e t : TypeId} {v : Value} {xs : List Value} (h : w.ownsRow N e s v n xs) {g : Nat} {cs : Array Value} (hb : BlkIs w g t cs) (hne : e ≠ t) : v.ownBlock ≠ some g := by
  intro hv
  rcases h.2 with ⟨rfl, _⟩ | ⟨g', cap, cur, rfl, _, hh, _⟩
  · cases hv
  · have e1 : g' = g := by simpa [Value.ownBlock] using hv
    subst e1
    unfold BlkIs at hb
    rw [hh] at hb
    injection hb with hb
    injection hb with _ ht
    exact hne ht
/-- what reported answers. -/
def RptQ (w : World) (e : Env) (l : L) (r : Ending) (w' : World) : Prop :=
  Below w.heap.size w w' ∧ ((errS e l = 0 ∧ ∃ v, r = .returned v ∧ Own5 w' w.heap.size v (repS e l)) ∨ (errS e l ≠ 0 ∧ r = Fa.bad (errS e l : Nat)))
theorem env_hyp {e : Env} {l : L} (h1 : envOk e = true) (h2 : e.2.1.length ≤ 100) : errS e l = if 1000000 < l.length then 2 else 0 := by
  unfold errS
  rw [if_pos h1]
  by_cases h : 1000000 < l.length
  · rw [if_pos (.inr h), if_pos h]
  · rw [if_neg (by omega), if_neg h]

set_option maxHeartbeats 6400000 in
/-- where the envelope may be and has no more recipients than may be. -/
theorem reported_ok {w : World} {x : Value} {e : Env} {A : Option Addr} {l : L} (h : EnvAt w w.heap.size x e) (hs : SmallE e) (hok : envOk e = true) (hn1 : e.2.1.length ≤ 100) (hb : Bts w w.heap.size A l) (c : Nat) (hc : l.length ≤ c) (hcm : c ≤ maxLen) (hA : A = none → c = 0) (hl : l.length ≤ 100000) (hT : GlT w) (hG : GlM w) :
    Calls Tryz.prog 40 #[x, .slice A l.length c] w (RptQ w e l) := by
  have hrl := env_hyp (l := l) hok hn1
  rw [if_neg (by omega)] at hrl
  obtain ⟨ht, hto⟩ := env_small hok hn1
  have hnl := bndS_len l hl
  have hhl := headS_len e (bndS l) hs (by omega) hnl
  have hh0 := Lib.itoa_length_le e.2.2 hs.v0 (Int.le_of_lt_add_one hs.v1)
  have hf0 := hs.fl
  have hf1 : e.1.length ≤ 320 := by
    have := hok
    unfold envOk at this
    simp only [Bool.and_eq_true, Bool.or_eq_true] at this
    rcases this.1 with h | h
    · rw [List.isEmpty_iff.1 h]; simp
    · exact mail_len h
  have hhl2 : (headS e (bndS l)).length ≤ 40000 := by
    have g0 : seg0.length = 59 := rfl
    have g1 : seg1.length = 4 := rfl
    have g2 : seg2.length = 36 := rfl
    have g3 : seg3.length = 10 := rfl
    have g5 : seg5.length = 32 := rfl
    have g6 : cr.length = 2 := rfl
    have g7 : dash.length = 2 := rfl
    unfold headS
    rw [List.length_append, List.length_append, List.length_append, List.length_append, List.length_append, List.length_append, List.length_append, List.length_append, List.length_append, List.length_append, List.length_append, List.length_append, List.length_append, List.length_append, List.length_append, List.length_append]
    omega
  have htl : (tailS (bndS l)).length ≤ 60 := by
    have g6 : cr.length = 2 := rfl
    have g7 : dash.length = 2 := rfl
    unfold tailS
    rw [List.length_append, List.length_append, List.length_append, List.length_append]
    omega
  have HTX1 : Hid (linS ((txt0 e (bndS l) ++ e.2.1.map rcp) ++ txt2 (bndS l)) = headS e (bndS l)) := Lib.hid (txt_head e (bndS l))
  have HTX2 : Hid (linS [[], ([45, 45] ++ bndS l) ++ [45, 45]] = tailS (bndS l)) := Lib.hid (txt_tail (bndS l))
  have HREP : Hid ([headS e (bndS l), l, tailS (bndS l)].flatten = repS e l) := Lib.hid (by unfold repS; simp)
  have HHP : Hid (0 < (headS e (bndS l)).length) := Lib.hid (by unfold headS seg0; simp)
  have HALL : Hid ((e.1.isEmpty || mailS e.1) = true ∧ 1 ≤ e.2.1.length ∧ 0 ≤ e.2.2 ∧ ∀ k, k < e.2.1.length → mailS (e.2.1.getD k []) = true) := Lib.hid (by
    have := hok
    unfold envOk at this
    simp only [Bool.and_eq_true, decide_eq_true_eq] at this
    refine ⟨this.1, this.2.1, this.2.2.1, fun k hk => ?_⟩
    exact List.all_eq_true.1 this.2.2.2 _ (by simp [List.getD, hk]))
  have HGT := Lib.hid (fun (X : World) (hX : Below w.heap.size w X) => And.intro (hT.below hX hT.lt) (hG.below hX hG.lt))
  have HBN : Hid (∀ X, Below w.heap.size w X → Calls Tryz.prog 22 #[.slice A l.length c] X fun r w' => r = .returned (.string (str (bndS l))) ∧ Below X.heap.size X w') := Lib.hid fun X hX => boundary_any ((hb.below hX).more hX.size) c hc hcm hA hl (HGT.out X hX).2 (HGT.out X hX).1
  have HFM : Hid (∀ X, Below w.heap.size w X → Calls Tryz.prog 37 #[.int .i64 e.2.2, .int .i64 10] X fun r w' => r = .returned (.string (str (Lib.itoa e.2.2))) ∧ Below X.heap.size X w') := Lib.hid fun X hX => format_any _ X hs.v0 hs.v1 (HGT.out X hX).1
  have HMB := Lib.hid (fun X => mailbox_any e.1 (by omega) X)
  have HMT := Lib.hid (fun k X => mailbox_any (e.2.1.getD k []) (by have := ht k; omega) X)
  have hse := str_empty e.1
  have HMAP : Hid (∀ k, k < e.2.1.length → (e.2.1.take (k + 1)).map rcp = (e.2.1.take k).map rcp ++ [rcp (e.2.1.getD k [])]) := Lib.hid fun k hk => map_take _ _ hk
  have HBB := Lib.hid (fun (X : World) (hX : Below w.heap.size w X) => hb.below hX)
  obtain ⟨AT, cT, rfl, hTx, hc1, hc2⟩ := h
  have HEL := Lib.hid hTx.els
  unfold RptQ
  rw [hrl]

  have em1 : (⟨#[67, 111, 110, 116, 101, 110, 116, 45, 84, 121, 112, 101, 58, 32, 109, 117, 108, 116, 105, 112, 97, 114, 116, 47, 109, 105, 120, 101, 100, 59, 32, 98, 111, 117, 110, 100, 97, 114, 121, 61]⟩ : ByteArray) ++ str (bndS l) = str (([67, 111, 110, 116, 101, 110, 116, 45, 84, 121, 112, 101, 58, 32, 109, 117, 108, 116, 105, 112, 97, 114, 116, 47, 109, 105, 120, 101, 100, 59, 32, 98, 111, 117, 110, 100, 97, 114, 121, 61] : L) ++ bndS l) := str_append _ _
  have zm1 : (str (([67, 111, 110, 116, 101, 110, 116, 45, 84, 121, 112, 101, 58, 32, 109, 117, 108, 116, 105, 112, 97, 114, 116, 47, 109, 105, 120, 101, 100, 59, 32, 98, 111, 117, 110, 100, 97, 114, 121, 61] : L) ++ bndS l)).size ≤ 200 := by rw [str_size, List.length_append]; simp only [List.length_cons, List.length_nil]; omega
  have em2 : (⟨#[45, 45]⟩ : ByteArray) ++ str (bndS l) = str (([45, 45] : L) ++ bndS l) := str_append _ _
  have zm2 : (str (([45, 45] : L) ++ bndS l)).size ≤ 200 := by rw [str_size, List.length_append]; simp only [List.length_cons, List.length_nil]; omega
  have em3 : (⟨#[83, 101, 110, 100, 101, 114, 58, 32]⟩ : ByteArray) ++ str e.1 = str (([83, 101, 110, 100, 101, 114, 58, 32] : L) ++ e.1) := str_append _ _
  have zm3 : (str (([83, 101, 110, 100, 101, 114, 58, 32] : L) ++ e.1)).size ≤ 400 := by rw [str_size, List.length_append]; simp only [List.length_cons, List.length_nil]; omega
  have em4 : (⟨#[82, 101, 99, 101, 105, 118, 101, 100, 58, 32]⟩ : ByteArray) ++ str (Lib.itoa e.2.2) = str (([82, 101, 99, 101, 105, 118, 101, 100, 58, 32] : L) ++ Lib.itoa e.2.2) := str_append _ _
  have zm4 : (str (([82, 101, 99, 101, 105, 118, 101, 100, 58, 32] : L) ++ Lib.itoa e.2.2)).size ≤ 200 := by rw [str_size, List.length_append]; simp only [List.length_cons, List.length_nil]; omega
  have em5 : str (([45, 45] : L) ++ bndS l) ++ (⟨#[45, 45]⟩ : ByteArray) = str ((([45, 45] : L) ++ bndS l) ++ ([45, 45] : L)) := str_append _ _
  have zm5 : (str ((([45, 45] : L) ++ bndS l) ++ ([45, 45] : L))).size ≤ 200 := by rw [str_size, List.length_append, List.length_append]; simp only [List.length_cons, List.length_nil]; omega
  have HRC : Hid (∀ k, ∃ sk : ByteArray, sk = str (e.2.1.getD k []) ∧ (⟨#[82, 101, 99, 105, 112, 105, 101, 110, 116, 58, 32]⟩ : ByteArray) ++ sk = str (rcp (e.2.1.getD k [])) ∧ sk.size ≤ 100000) := Lib.hid fun k => ⟨_, rfl, str_append _ _, by rw [str_size]; exact ht k⟩
  have HT0 : Hid ((#[.string (⟨#[77, 73, 77, 69, 45, 86, 101, 114, 115, 105, 111, 110, 58, 32, 49, 46, 48]⟩ : ByteArray), .string (str (([67, 111, 110, 116, 101, 110, 116, 45, 84, 121, 112, 101, 58, 32, 109, 117, 108, 116, 105, 112, 97, 114, 116, 47, 109, 105, 120, 101, 100, 59, 32, 98, 111, 117, 110, 100, 97, 114, 121, 61] : L) ++ bndS l)), .string ⟨#[]⟩, .string (str (([45, 45] : L) ++ bndS l)), .string (⟨#[67, 111, 110, 116, 101, 110, 116, 45, 84, 121, 112, 101, 58, 32, 116, 101, 120, 116, 47, 112, 108, 97, 105, 110]⟩ : ByteArray), .string ⟨#[]⟩, .string (str (([83, 101, 110, 100, 101, 114, 58, 32] : L) ++ e.1)), .string (str (([82, 101, 99, 101, 105, 118, 101, 100, 58, 32] : L) ++ Lib.itoa e.2.2))] : Array Value).toList = tv (txt0 e (bndS l))) := Lib.hid rfl
  have HT2 : Hid ((#[.string (str (([45, 45] : L) ++ bndS l)), .string (⟨#[67, 111, 110, 116, 101, 110, 116, 45, 84, 121, 112, 101, 58, 32, 109, 101, 115, 115, 97, 103, 101, 47, 114, 102, 99, 56, 50, 50]⟩ : ByteArray), .string ⟨#[]⟩] : Array Value).toList = tv (txt2 (bndS l))) := Lib.hid rfl
  have HT3 : Hid ((#[.string ⟨#[]⟩, .string (str ((([45, 45] : L) ++ bndS l) ++ ([45, 45] : L)))] : Array Value).toList = tv [[], ([45, 45] ++ bndS l) ++ [45, 45]]) := Lib.hid rfl
  have HTN : Hid ((txt0 e (bndS l)).length = 8 ∧ (txt2 (bndS l)).length = 3) := Lib.hid ⟨rfl, rfl⟩
  have zn : (str (bndS l)).size ≤ 40 := by rw [str_size]; omega
  have zf : (str e.1).size ≤ 320 := by rw [str_size]; omega
  have zv : (str (Lib.itoa e.2.2)).size ≤ 21 := by rw [str_size]; omega
  clear hTx ht hto hnl hhl hh0 hf0 hf1 hb hT hG hrl hok hs hA
  generalize str ((([45, 45] : L) ++ bndS l) ++ ([45, 45] : L)) = sm5 at *
  generalize str (([82, 101, 99, 101, 105, 118, 101, 100, 58, 32] : L) ++ Lib.itoa e.2.2) = sm4 at *
  generalize str (([83, 101, 110, 100, 101, 114, 58, 32] : L) ++ e.1) = sm3 at *
  generalize str (([45, 45] : L) ++ bndS l) = sm2 at *
  generalize str (([67, 111, 110, 116, 101, 110, 116, 45, 84, 121, 112, 101, 58, 32, 109, 117, 108, 116, 105, 112, 97, 114, 116, 47, 109, 105, 120, 101, 100, 59, 32, 98, 111, 117, 110, 100, 97, 114, 121, 61] : L) ++ bndS l) = sm1 at *
  generalize str (Lib.itoa e.2.2) = sv at *
  generalize str e.1 = sf at *
  generalize e.1.isEmpty = fe at *
  generalize mailS e.1 = mb at *
  generalize hv : e.2.2 = v at *
  generalize headS e (bndS l) = hd at *
  generalize tailS (bndS l) = tl at *
  generalize repS e l = rl at *
  generalize txt0 e (bndS l) = t0 at *
  generalize txt2 (bndS l) = t2 at *
  generalize ht3 : ([[], ([45, 45] ++ bndS l) ++ [45, 45]] : List L) = t3 at *
  have HT3N : Hid (t3.length = 2) := Lib.hid (by rw [← ht3]; rfl)
  clear ht3 hv
  generalize str (bndS l) = sn at *
  generalize hps : e.2.1 = ps at *
  clear hps
  generalize hpn : ps.length = n at *
  have HPN := Lib.hid hpn
  clear hpn
  generalize hln : l.length = ln at *
  have HLN := Lib.hid hln
  clear hln
  have hqn := BlkIs.new w 34 #[.string sf, .slice AT n cT, .int .i64 v]
  have han : Below w.heap.size w (w.alloc (.cells #[.string sf, .slice AT n cT, .int .i64 v] 34)) := (Below.refl _ _).alloc (Nat.le_refl _) _
  have HQ := Lib.hid hqn
  have HB0 := Lib.hid han
  clear hqn han
  have z0c := (BlkIs.cell HQ.out 0).trans (rfl : _ = some (Value.string sf))
  have z1c := (BlkIs.cell HQ.out 1).trans (rfl : _ = some (Value.slice AT n cT))
  have z2c := (BlkIs.cell HQ.out 2).trans (rfl : _ = some (Value.int .i64 v))
  have hA1 := HALL.out.2.1
  have hA2 := HALL.out.2.2.1
  have hz1 : (0 : Int) < (n : Int) := by omega
  go_enter Tryz.func40, Tryz.ntmps40
  cases fe with
  | true =>
    have z1q := (BlkIs.cell HQ.out 1).trans (rfl : _ = some (Value.slice AT n cT))
    go_wp2_with (first
      | (go_at_call 46; refine (Fa.mnd_t (by first | rfl | (simp; done) | (simp; omega)) _).mono ?_; rintro r w' ⟨rfl, rfl⟩)
      | fail)
    go_loopw [34] (fun i wr => ∃ k : Nat, k ≤ n ∧ i = .int .i64 (k : Nat) ∧ Hid (Below w.heap.size w wr) ∧ Hid (BlkIs wr w.heap.size 34 #[.string sf, .slice AT n cT, .int .i64 v])) (fun i _ => n + 1 - (intOf i).toNat)
    case atStart => exact ⟨0, Nat.zero_le _, rfl, HB0, HQ⟩
    case round =>
      obtain ⟨k, hk, rfl, HBK, HQK⟩ := hrel
      by_cases hlt : k < n
      · obtain ⟨g, o, rfl, hg, hX⟩ := HEL.out k hlt
        have hcell := hX wr HBK.out
        have hmt := HMT.out k
        rw [HALL.out.2.2.2 k hlt] at hmt
        have HM := Lib.hid hmt
        have hkn : (k : Int) < (n : Int) := by omega
        clear hX hmt
        generalize str (ps.getD k []) = sk at *
        go_wp2_with (first
          | (go_at_call 60; refine (HM.out _).mono ?_; rintro r w3 ⟨rfl, hb3⟩)
          | (go_at_call 46; refine (Fa.mnd_ok _).mono ?_; rintro r w4 ⟨rfl, rfl⟩)
          | fail)
        have HB3 := Lib.hid (HBK.out.trans (hb3.mono HBK.out.size))
        have HQ3 : Hid (BlkIs w3 w.heap.size 34 #[.string sf, .slice (some ⟨g, o, none⟩) n cT, .int .i64 v]) := Lib.hid ((hb3.block _ HQK.out.lt).trans HQK.out)
        go_roundw
        case rel => exact ⟨k + 1, by omega, by go_num, HB3, HQ3⟩
        case measure => simp [intOf]; omega
      · obtain rfl : k = n := by omega
        have hkn : ¬ (k : Int) < (k : Int) := by omega
        have z1k := (BlkIs.cell HQK.out 1).trans (rfl : _ = some (Value.slice AT k cT))
        have HB8 := Lib.hid (HBN.out _ HBK.out)
        clear z0c z1c z2c z1q
        go_wp2_with (first
          | (go_at_call 73; refine (Fa.nd_t (by first | rfl | (simp; done) | (simp; omega)) 2 _).mono ?_; rintro r w' ⟨rfl, rfl⟩)
          | (go_at_call 22; refine HB8.out.mono ?_; rintro r w3 ⟨rfl, hb3⟩)
          | fail)
        have HB3 := Lib.hid (HBK.out.trans (hb3.mono HBK.out.size))
        have HQ3 : Hid (BlkIs w3 w.heap.size 34 #[.string sf, .slice AT k cT, .int .i64 v]) := Lib.hid ((hb3.block _ HQK.out.lt).trans HQK.out)
        have HQD : Hid (BlkIs w3.drew w.heap.size 34 #[.string sf, .slice AT k cT, .int .i64 v]) := Lib.hid HQ3.out
        have HBD : Hid (Below w.heap.size w w3.drew) := Lib.hid (below_drewN HB3.out 1)
        clear hb3 z1k HB8 HB3 HQ3
        refine wp_region_held_drew (S := (fun Y => BlkIs Y w.heap.size 34 #[.string sf, .slice AT k cT, .int .i64 v] ∧ Below w.heap.size w Y)) (by kernel_rfl) (⟨HQD.out, HBD.out⟩) (fun hHeld => ?_)
        generalize w3.drew = w4 at *
        refine wpAnyH_take (i := 0) (v := .string sn) rfl (by kernel_rfl) (by kernel_rfl) (by kernel_rfl) (fun _ _ _ h => h) (Or.inl ⟨by rfl, fun w hS => by first | (go_simp; done) | (go_simp; with_reducible rfl)⟩) hHeld ?_
        try simp only [Act.put, List.getElem_toArray, List.getElem_cons_zero, List.setIfInBounds_toArray, List.set_cons_zero, List.set_cons_succ]
        refine wpAnyH_take (i := 1) (v := .string sm1) rfl (by kernel_rfl) (by kernel_rfl) (by kernel_rfl) (fun _ _ _ h => h) (Or.inl ⟨by rfl, fun w hS => by (go_simp; omega)⟩) hHeld ?_
        try simp only [Act.put, List.getElem_toArray, List.getElem_cons_zero, List.getElem_cons_succ, List.setIfInBounds_toArray, List.set_cons_zero, List.set_cons_succ]
        refine wpAnyH_take (i := 2) (v := .string sn) rfl (by kernel_rfl) (by kernel_rfl) (by kernel_rfl) (fun _ _ _ h => h) (Or.inl ⟨by rfl, fun w hS => by first | (go_simp; done) | (go_simp; with_reducible rfl)⟩) hHeld ?_
        try simp only [Act.put, List.getElem_toArray, List.getElem_cons_zero, List.getElem_cons_succ, List.setIfInBounds_toArray, List.set_cons_zero, List.set_cons_succ]
        refine wpAnyH_take (i := 3) (v := .string sm2) rfl (by kernel_rfl) (by kernel_rfl) (by kernel_rfl) (fun _ _ _ h => h) (Or.inl ⟨by rfl, fun w hS => by (go_simp; omega)⟩) hHeld ?_
        try simp only [Act.put, List.getElem_toArray, List.getElem_cons_zero, List.getElem_cons_succ, List.setIfInBounds_toArray, List.set_cons_zero, List.set_cons_succ]
        refine wpAnyH_take (i := 4) (v := .pointer (some ⟨w.heap.size, 0, none⟩)) rfl (by kernel_rfl) (by kernel_rfl) (by kernel_rfl) (fun _ _ _ h => h) (Or.inl ⟨by rfl, fun w hS => by first | (go_simp; done) | (go_simp; with_reducible rfl)⟩) hHeld ?_
        try simp only [Act.put, List.getElem_toArray, List.getElem_cons_zero, List.getElem_cons_succ, List.setIfInBounds_toArray, List.set_cons_zero, List.set_cons_succ]
        refine wpAnyH_take (i := 5) (v := .string sf) rfl (by kernel_rfl) (by kernel_rfl) (by kernel_rfl) (fun _ _ _ h => h) (Or.inl ⟨by rfl, fun w hS => by (have c0 := (BlkIs.cell hS.1 0).trans (rfl : _ = some (Value.string sf)); go_simp)⟩) hHeld ?_
        try simp only [Act.put, List.getElem_toArray, List.getElem_cons_zero, List.getElem_cons_succ, List.setIfInBounds_toArray, List.set_cons_zero, List.set_cons_succ]
        refine wpAnyH_take (i := 6) (v := .string sm3) rfl (by kernel_rfl) (by kernel_rfl) (by kernel_rfl) (fun _ _ _ h => h) (Or.inl ⟨by rfl, fun w hS => by (go_simp; omega)⟩) hHeld ?_
        try simp only [Act.put, List.getElem_toArray, List.getElem_cons_zero, List.getElem_cons_succ, List.setIfInBounds_toArray, List.set_cons_zero, List.set_cons_succ]
        refine wpAnyH_take (i := 7) (v := .pointer (some ⟨w.heap.size, 2, none⟩)) rfl (by kernel_rfl) (by kernel_rfl) (by kernel_rfl) (fun _ _ _ h => h) (Or.inl ⟨by rfl, fun w hS => by first | (go_simp; done) | (go_simp; with_reducible rfl)⟩) hHeld ?_
        try simp only [Act.put, List.getElem_toArray, List.getElem_cons_zero, List.getElem_cons_succ, List.setIfInBounds_toArray, List.set_cons_zero, List.set_cons_succ]
        refine wpAnyH_take (i := 8) (v := .int .i64 v) rfl (by kernel_rfl) (by kernel_rfl) (by kernel_rfl) (fun _ _ _ h => h) (Or.inl ⟨by rfl, fun w hS => by (have c0 := (BlkIs.cell hS.1 2).trans (rfl : _ = some (Value.int .i64 v)); go_simp)⟩) hHeld ?_
        try simp only [Act.put, List.getElem_toArray, List.getElem_cons_zero, List.getElem_cons_succ, List.setIfInBounds_toArray, List.set_cons_zero, List.set_cons_succ]
        refine wpAnyH_ready (rs := [9]) (by kernel_rfl) (by simp) ?_
        refine AllReadyH.cons rfl (fun K hK => ?_) AllReadyH.nil
        go_simp
        go_wp2_with (first | (refine (HFM.out _ HBD.out).mono ?_; rintro e w5 ⟨rfl, hb5⟩) | fail)
        refine hK.out _ _ ?_ (fun hHeld => ?_)
        · exact ⟨(hb5.block _ HQD.out.lt).trans HQD.out, HBD.out.trans (hb5.mono HBD.out.size)⟩
        clear hK K
        try simp only [Act.put, List.getElem_toArray, List.getElem_cons_zero, List.getElem_cons_succ, List.setIfInBounds_toArray, List.set_cons_zero, List.set_cons_succ]
        have HB5 := Lib.hid (HBD.out.trans (hb5.mono HBD.out.size))
        have HQ5 : Hid (BlkIs w5 w.heap.size 34 #[.string sf, .slice AT k cT, .int .i64 v]) := Lib.hid ((hb5.block _ HQD.out.lt).trans HQD.out)
        clear hb5
        refine wpAnyH_take (i := 10) (v := .string sm4) rfl (by kernel_rfl) (by kernel_rfl) (by kernel_rfl) (fun _ _ _ h => h) (Or.inl ⟨by rfl, fun w hS => by (go_simp; omega)⟩) hHeld ?_
        try simp only [Act.put, List.getElem_toArray, List.getElem_cons_zero, List.getElem_cons_succ, List.setIfInBounds_toArray, List.set_cons_zero, List.set_cons_succ]
        have HB6 := Lib.hid (HB5.out.alloc HB5.out.size (.cells #[.string (⟨#[77, 73, 77, 69, 45, 86, 101, 114, 115, 105, 111, 110, 58, 32, 49, 46, 48]⟩ : ByteArray), .string sm1, .string ⟨#[]⟩, .string sm2, .string (⟨#[67, 111, 110, 116, 101, 110, 116, 45, 84, 121, 112, 101, 58, 32, 116, 101, 120, 116, 47, 112, 108, 97, 105, 110]⟩ : ByteArray), .string ⟨#[]⟩, .string sm3, .string sm4] 9))
        have HQ6 := Lib.hid (HQ5.out.alloc (.cells #[.string (⟨#[77, 73, 77, 69, 45, 86, 101, 114, 115, 105, 111, 110, 58, 32, 49, 46, 48]⟩ : ByteArray), .string sm1, .string ⟨#[]⟩, .string sm2, .string (⟨#[67, 111, 110, 116, 101, 110, 116, 45, 84, 121, 112, 101, 58, 32, 116, 101, 120, 116, 47, 112, 108, 97, 105, 110]⟩ : ByteArray), .string ⟨#[]⟩, .string sm3, .string sm4] 9))
        have HO6 := Lib.hid (own_lit w5 _ t0 HT0.out (by rw [HTN.out.1]; decide))
        refine wpAnyH_ready (rs := [11]) (by kernel_rfl) (by simp) ?_
        refine AllReadyH.cons rfl (fun K hK => ?_) AllReadyH.nil
        go_simp
        refine hK.out _ _ ?_ (fun hHeld => ?_)
        · exact ⟨HQ6.out, HB6.out⟩
        clear hK K
        try simp only [Act.put, List.getElem_toArray, List.getElem_cons_zero, List.getElem_cons_succ, List.setIfInBounds_toArray, List.set_cons_zero, List.set_cons_succ]
        refine wpAnyH_take (i := 12) (v := .slice (some ⟨w5.heap.size, 0, none⟩) 8 8) rfl (by kernel_rfl) (by kernel_rfl) (by kernel_rfl) (fun _ _ _ h => h) (Or.inl ⟨by rfl, fun w hS => by first | (go_simp; done) | (go_simp; with_reducible rfl)⟩) hHeld ?_
        try simp only [Act.put, List.getElem_toArray, List.getElem_cons_zero, List.getElem_cons_succ, List.setIfInBounds_toArray, List.set_cons_zero, List.set_cons_succ]
        refine wpAnyH_done (by kernel_rfl) ?_ _
        have HO6b : Hid ((w5.alloc (.cells #[.string (⟨#[77, 73, 77, 69, 45, 86, 101, 114, 115, 105, 111, 110, 58, 32, 49, 46, 48]⟩ : ByteArray), .string sm1, .string ⟨#[]⟩, .string sm2, .string (⟨#[67, 111, 110, 116, 101, 110, 116, 45, 84, 121, 112, 101, 58, 32, 116, 101, 120, 116, 47, 112, 108, 97, 105, 110]⟩ : ByteArray), .string ⟨#[]⟩, .string sm3, .string sm4] 9)).ownsRow w.heap.size 9 1 (.slice (some ⟨w5.heap.size, 0, none⟩) 8 8) t0.length (tv t0)) := Lib.hid (by have := own_more HO6.out HB5.out.size; rw [HTN.out.1] at this ⊢; exact this)
        clear HO6 HBD HQD em1 em3 em4 zm1 zm3 zm4
        generalize w5.alloc (.cells #[.string (⟨#[77, 73, 77, 69, 45, 86, 101, 114, 115, 105, 111, 110, 58, 32, 49, 46, 48]⟩ : ByteArray), .string sm1, .string ⟨#[]⟩, .string sm2, .string (⟨#[67, 111, 110, 116, 101, 110, 116, 45, 84, 121, 112, 101, 58, 32, 116, 101, 120, 116, 47, 112, 108, 97, 105, 110]⟩ : ByteArray), .string ⟨#[]⟩, .string sm3, .string sm4] 9) = w6 at *
        have z1k := (BlkIs.cell HQ6.out 1).trans (rfl : _ = some (Value.slice AT k cT))
        rename_i w7
        clear hkn
        generalize w5.heap.size = g5 at *
        rename World => wc
        go_wp2_with fail
        go_loopw [8, 69] (fun x i wr => ∃ j : Nat, j ≤ k ∧ i = .int .i64 (j : Nat) ∧ Hid (Below w.heap.size w wr) ∧ Hid (BlkIs wr w.heap.size 34 #[.string sf, .slice AT k cT, .int .i64 v]) ∧ Hid (wr.ownsRow w.heap.size 9 1 x (t0 ++ (ps.take j).map rcp).length (tv (t0 ++ (ps.take j).map rcp)))) (fun _ i _ => k + 1 - (intOf i).toNat)
        case atStart => exact ⟨0, Nat.zero_le _, rfl, HB6, HQ6, Lib.hid (by rw [List.take_zero, List.map_nil, List.append_nil]; exact HO6b.out)⟩
        case round =>
          obtain ⟨j, hj, rfl, HBK, HQK, HOK⟩ := hrel
          have hN := HBK.out.size
          by_cases hlt : j < k
          · obtain ⟨g, o, rfl, hg, hX⟩ := HEL.out j hlt
            have hcell := hX wr HBK.out
            obtain ⟨sk, hsk, hrk, zsk⟩ := HRC.out j
            rw [← hsk] at hcell
            have HMJ := Lib.hid (HMAP.out j hlt)
            have hjk : (j : Int) < (k : Int) := by omega
            clear hX hsk
            generalize rcp (ps.getD j []) = rp at *
            have hown := HOK.out
            have HTK : Hid ((t0 ++ (ps.take j).map rcp).length ≤ 1000) := Lib.hid (by have := List.length_take_le j ps; rw [List.length_append, List.length_map, HTN.out.1]; omega)
            generalize htk : t0 ++ (ps.take j).map rcp = tk at *
            have HTKE := Lib.hid htk
            clear htk
            generalize htn : tk.length = tkn at *
            have HTKN := Lib.hid htn
            clear htn HOK
            obtain ⟨A8, c8, rfl, _, _⟩ := own_slice hown
            have HOW := Lib.hid hown
            have HBA := Lib.hid (HBK.out.alloc hN (.cells #[.string (str rp)] 9))
            have HQA := Lib.hid (HQK.out.alloc (.cells #[.string (str rp)] 9))
            have HOA : Hid ((wr.alloc (.cells #[.string (str rp)] 9)).ownsRow w.heap.size 9 1 (.slice A8 tkn c8) tk.length (tv tk)) := Lib.hid (by rw [HTKN.out]; exact own_kept HOW.out (belowA wr _) (Nat.le_refl _))
            have hcx : (wr.alloc (.cells #[.string (str rp)] 9)).cell? ⟨wr.heap.size, 0, none⟩ = some (.string (str rp)) := (cell_of_row _ wr.heap.size 0 #[.string (str rp)] 9 (0, 0) (heap_alloc_new wr _)).trans rfl
            have HCX := Lib.hid hcx
            clear hown hcx
            go_wp2_with (first
              | (refine appT (.tmp 73) (.tmp 76) rfl rfl w.heap.size _ tk rp rfl HOA.out wr.heap.size 1 rfl HCX.out (by simp) (by have := HTK.out; rw [HTKN.out]; omega) (by simp; omega) ?_; intro v9 w9 h1 h2; have HO9 := Lib.hid h1; have HB9 := Lib.hid (HBA.out.grown h2 HBA.out.size (fun q hq => (HOA.out.lt q hq).1)); have HQ9 := Lib.hid (HQA.out.grown h2 (own_row HOA.out HQA.out (by decide))); clear h1 h2)
              | fail)
            go_roundw
            case rel => exact ⟨j + 1, by omega, by go_num, HB9, HQ9, Lib.hid (by rw [HMJ.out, ← List.append_assoc, HTKE.out]; exact HO9.out)⟩
            case measure => simp [intOf]; omega
          · obtain rfl : j = k := by omega
            have hjk : ¬ (j : Int) < (j : Int) := by omega
            have hown := HOK.out
            have hpt : ps.take j = ps := List.take_of_length_le (by rw [HPN.out]; exact Nat.le_refl _)
            rw [hpt] at hown
            have HTK : Hid ((t0 ++ ps.map rcp).length ≤ 1000) := Lib.hid (by rw [List.length_append, List.length_map, HTN.out.1, HPN.out]; omega)
            clear hpt HOK
            generalize t0 ++ ps.map rcp = tk at *
            generalize htn : tk.length = tkn at *
            have HTKN := Lib.hid htn
            clear htn
            obtain ⟨A8, c8, rfl, _, _⟩ := own_slice hown
            have HOW := Lib.hid hown
            have HBA := Lib.hid (HBK.out.alloc hN (.cells #[.string sm2, .string (⟨#[67, 111, 110, 116, 101, 110, 116, 45, 84, 121, 112, 101, 58, 32, 109, 101, 115, 115, 97, 103, 101, 47, 114, 102, 99, 56, 50, 50]⟩ : ByteArray), .string ⟨#[]⟩] 9))
            have HOA : Hid ((wr.alloc (.cells #[.string sm2, .string (⟨#[67, 111, 110, 116, 101, 110, 116, 45, 84, 121, 112, 101, 58, 32, 109, 101, 115, 115, 97, 103, 101, 47, 114, 102, 99, 56, 50, 50]⟩ : ByteArray), .string ⟨#[]⟩] 9)).ownsRow w.heap.size 9 1 (.slice A8 tkn c8) tk.length (tv tk)) := Lib.hid (by rw [HTKN.out]; exact own_kept HOW.out (belowA wr _) (Nat.le_refl _))
            have HXA := Lib.hid (tx_lit wr _ t2 HT2.out)
            have HT2L := Lib.hid HTN.out.2
            have HTX := Lib.hid HTX1.out
            clear hown
            generalize htt : tk ++ t2 = tt at *
            have HTT := Lib.hid htt
            clear htt
            go_wp2_with (first
              | (refine appTs (.tmp 79) (.tmp 82) rfl rfl (ps := tk) (qs := t2) (B := wr.heap.size + 1) (A := some ⟨wr.heap.size, 0, none⟩) (c := 3) rfl HOA.out (by rw [HT2L.out]; rfl) HXA.out (by have := HTK.out; rw [HTKN.out, HT2L.out]; omega) (by simp; omega) ?_; intro v9 w9 h1 h2; rw [HTT.out] at h1; generalize hq : tt.length = n9 at h1; have HN9 := Lib.hid hq; clear hq; obtain ⟨A9, c9, rfl, _, _⟩ := own_slice h1; have HO9 := Lib.hid h1; have HB9 := Lib.hid (HBA.out.grown h2 HBA.out.size (fun q hq => (HOA.out.lt q hq).1)); clear h1 h2)
              | fail)
            have HN9L : Hid (n9 ≤ 2000) := Lib.hid (by rw [← HN9.out, ← HTT.out, List.length_append, HTKN.out, HT2L.out]; have := HTK.out; omega)
            refine (lines_any (Tx.of_own HO9.out) n9 c9 HN9.out (by have := HN9L.out; omega) (by rw [HTX.out]; omega)).mono ?_
            rintro r w10 ⟨v10, rfl, ho10, hb10⟩
            rw [HTX.out] at ho10
            have HB10 := Lib.hid (HB9.out.trans (hb10.mono HB9.out.size))
            obtain ⟨A10, c10, rfl, hc10, hm10⟩ := own_slice ho10
            have HO10 := Lib.hid ho10
            have HL11 := Lib.hid (lines_any ((tx_lit w10 _ t3 HT3.out).more (by simp)) 2 2 HT3N.out (by decide) (by rw [HTX2.out]; omega))
            have HB11 := Lib.hid (HB10.out.alloc HB10.out.size (.cells #[.string ⟨#[]⟩, .string sm5] 9))
            have HO11 : Hid (Own5 (w10.alloc (.cells #[.string ⟨#[]⟩, .string sm5] 9)) w9.heap.size (.slice A10 hd.length c10) hd) := Lib.hid (own_kept HO10.out (belowA w10 _) (Nat.le_refl _))
            clear ho10 hb10 HBA HOA HXA
            generalize hhn : hd.length = hn at *
            have HHN := Lib.hid hhn
            clear hhn
            go_wp2_with fail
            refine HL11.out.mono ?_
            rintro r w12 ⟨v12, rfl, ho12, hb12⟩
            rw [HTX2.out] at ho12
            have HB12 := Lib.hid (HB11.out.trans (hb12.mono HB11.out.size))
            obtain ⟨A12, c12, rfl, hc12, hm12⟩ := own_slice ho12
            have HO12 : Hid (Own5 w12 w9.heap.size (.slice A10 hn c10) hd) := Lib.hid (own_kept HO11.out hb12 (Nat.le_refl _))
            have HT12 := Lib.hid ho12
            have HCO : Hid (∀ h, h = w12.alloc (.cells #[.slice A10 hn c10, .slice A ln c, .slice A12 tl.length c12] 22) → Calls Tryz.prog 74 #[.slice (some ⟨w12.heap.size, 0, none⟩) 3 3] h fun r w' => ∃ v, r = .returned v ∧ Own5 w' h.heap.size v rl ∧ Below h.heap.size h w') := Lib.hid fun h hh => by
              have hbh : Below w12.heap.size w12 h := by rw [hh]; exact belowA w12 _
              have hzz : h.heap.size = w12.heap.size + 1 := by rw [hh]; simp
              have hcell : h.heap[w12.heap.size]? = some (.cells #[.slice A10 hn c10, .slice A ln c, .slice A12 tl.length c12] 22 (0, 0)) := by rw [hh]; exact heap_alloc_new _ _
              have b1 : Bts h w12.heap.size A10 hd := (Own5.bts HO12.out).below hbh
              have b3 : Bts h w12.heap.size A12 tl := (Own5.bts HT12.out).below hbh
              have b2 : Bts h w12.heap.size A l := (HBB.out h (HB12.out.trans (hbh.mono HB12.out.size))).more HB12.out.size
              have := Dt.concat_any (ls := [hd, l, tl]) (three_rows (b1.more (by omega)) (b2.more (by omega)) (b3.more (by omega)) (by rw [HHN.out]; exact hc10) hm10 (by rw [HLN.out]; exact hc) hcm hc12 hm12 (by omega)
                ((cell_of_row _ _ 0 _ _ _ hcell).trans (by rw [HHN.out]; rfl)) ((cell_of_row _ _ 1 _ _ _ hcell).trans (by rw [HLN.out]; rfl)) ((cell_of_row _ _ 2 _ _ _ hcell).trans rfl)) 3 (by have h1 := HHP.out; have h2 := HHN.out; simp only [List.flatten_cons, List.flatten_nil, List.length_append, List.length_nil]; omega) (by have h2 := HHN.out; have h3 := HLN.out; simp only [List.flatten_cons, List.flatten_nil, List.length_append, List.length_nil]; omega) (by simp)
              rw [HREP.out] at this
              exact this
            have HB13 := Lib.hid (HB12.out.alloc HB12.out.size (.cells #[.slice A10 hn c10, .slice A ln c, .slice A12 tl.length c12] 22))
            clear ho12 hb12
            generalize tl.length = tln at *
            go_wp2_with fail
            refine (HCO.out _ rfl).mono ?_
            rintro r w14 ⟨v14, rfl, ho14, hb14⟩
            have HB14 := Lib.hid (HB13.out.trans (hb14.mono HB13.out.size))
            have HO14 := Lib.hid (own_more ho14 HB13.out.size)
            clear ho14 hb14
            go_wp2_with fail
            go_ret
            exact ⟨HB14.out, .inl ⟨trivial, _, rfl, HO14.out⟩⟩
  | false =>
    have hmbt : mb = true := by have := HALL.out.1; rwa [Bool.false_or] at this
    subst hmbt
    go_wp2_with fail
    refine (HMB.out _).mono ?_
    rintro r w2 ⟨rfl, hb2⟩
    have HB2 := Lib.hid (HB0.out.trans (hb2.mono HB0.out.size))
    have HQ2 : Hid (BlkIs w2 w.heap.size 34 #[.string sf, .slice AT n cT, .int .i64 v]) := Lib.hid ((hb2.block _ HQ.out.lt).trans HQ.out)
    have z2q := (BlkIs.cell HQ2.out 2).trans (rfl : _ = some (Value.int .i64 v))
    clear hb2 z0c z1c z2c
    have z1q := (BlkIs.cell HQ2.out 1).trans (rfl : _ = some (Value.slice AT n cT))
    go_wp2_with (first
      | (go_at_call 46; refine (Fa.mnd_t (by first | rfl | (simp; done) | (simp; omega)) _).mono ?_; rintro r w' ⟨rfl, rfl⟩)
      | fail)
    go_loopw [34] (fun i wr => ∃ k : Nat, k ≤ n ∧ i = .int .i64 (k : Nat) ∧ Hid (Below w.heap.size w wr) ∧ Hid (BlkIs wr w.heap.size 34 #[.string sf, .slice AT n cT, .int .i64 v])) (fun i _ => n + 1 - (intOf i).toNat)
    case atStart => exact ⟨0, Nat.zero_le _, rfl, HB2, HQ2⟩
    case round =>
      obtain ⟨k, hk, rfl, HBK, HQK⟩ := hrel
      by_cases hlt : k < n
      · obtain ⟨g, o, rfl, hg, hX⟩ := HEL.out k hlt
        have hcell := hX wr HBK.out
        have hmt := HMT.out k
        rw [HALL.out.2.2.2 k hlt] at hmt
        have HM := Lib.hid hmt
        have hkn : (k : Int) < (n : Int) := by omega
        clear hX hmt
        generalize str (ps.getD k []) = sk at *
        go_wp2_with (first
          | (go_at_call 60; refine (HM.out _).mono ?_; rintro r w3 ⟨rfl, hb3⟩)
          | (go_at_call 46; refine (Fa.mnd_ok _).mono ?_; rintro r w4 ⟨rfl, rfl⟩)
          | fail)
        have HB3 := Lib.hid (HBK.out.trans (hb3.mono HBK.out.size))
        have HQ3 : Hid (BlkIs w3 w.heap.size 34 #[.string sf, .slice (some ⟨g, o, none⟩) n cT, .int .i64 v]) := Lib.hid ((hb3.block _ HQK.out.lt).trans HQK.out)
        go_roundw
        case rel => exact ⟨k + 1, by omega, by go_num, HB3, HQ3⟩
        case measure => simp [intOf]; omega
      · obtain rfl : k = n := by omega
        have hkn : ¬ (k : Int) < (k : Int) := by omega
        have z1k := (BlkIs.cell HQK.out 1).trans (rfl : _ = some (Value.slice AT k cT))
        have HB8 := Lib.hid (HBN.out _ HBK.out)
        clear z2q z1q
        go_wp2_with (first
          | (go_at_call 73; refine (Fa.nd_t (by first | rfl | (simp; done) | (simp; omega)) 2 _).mono ?_; rintro r w' ⟨rfl, rfl⟩)
          | (go_at_call 22; refine HB8.out.mono ?_; rintro r w3 ⟨rfl, hb3⟩)
          | fail)
        have HB3 := Lib.hid (HBK.out.trans (hb3.mono HBK.out.size))
        have HQ3 : Hid (BlkIs w3 w.heap.size 34 #[.string sf, .slice AT k cT, .int .i64 v]) := Lib.hid ((hb3.block _ HQK.out.lt).trans HQK.out)
        have HQD : Hid (BlkIs w3.drew w.heap.size 34 #[.string sf, .slice AT k cT, .int .i64 v]) := Lib.hid HQ3.out
        have HBD : Hid (Below w.heap.size w w3.drew) := Lib.hid (below_drewN HB3.out 1)
        clear hb3 z1k HB8 HB3 HQ3
        refine wp_region_held_drew (S := (fun Y => BlkIs Y w.heap.size 34 #[.string sf, .slice AT k cT, .int .i64 v] ∧ Below w.heap.size w Y)) (by kernel_rfl) (⟨HQD.out, HBD.out⟩) (fun hHeld => ?_)
        generalize w3.drew = w4 at *
        refine wpAnyH_take (i := 0) (v := .string sn) rfl (by kernel_rfl) (by kernel_rfl) (by kernel_rfl) (fun _ _ _ h => h) (Or.inl ⟨by rfl, fun w hS => by first | (go_simp; done) | (go_simp; with_reducible rfl)⟩) hHeld ?_
        try simp only [Act.put, List.getElem_toArray, List.getElem_cons_zero, List.setIfInBounds_toArray, List.set_cons_zero, List.set_cons_succ]
        refine wpAnyH_take (i := 1) (v := .string sm1) rfl (by kernel_rfl) (by kernel_rfl) (by kernel_rfl) (fun _ _ _ h => h) (Or.inl ⟨by rfl, fun w hS => by (go_simp; omega)⟩) hHeld ?_
        try simp only [Act.put, List.getElem_toArray, List.getElem_cons_zero, List.getElem_cons_succ, List.setIfInBounds_toArray, List.set_cons_zero, List.set_cons_succ]
        refine wpAnyH_take (i := 2) (v := .string sn) rfl (by kernel_rfl) (by kernel_rfl) (by kernel_rfl) (fun _ _ _ h => h) (Or.inl ⟨by rfl, fun w hS => by first | (go_simp; done) | (go_simp; with_reducible rfl)⟩) hHeld ?_
        try simp only [Act.put, List.getElem_toArray, List.getElem_cons_zero, List.getElem_cons_succ, List.setIfInBounds_toArray, List.set_cons_zero, List.set_cons_succ]
        refine wpAnyH_take (i := 3) (v := .string sm2) rfl (by kernel_rfl) (by kernel_rfl) (by kernel_rfl) (fun _ _ _ h => h) (Or.inl ⟨by rfl, fun w hS => by (go_simp; omega)⟩) hHeld ?_
        try simp only [Act.put, List.getElem_toArray, List.getElem_cons_zero, List.getElem_cons_succ, List.setIfInBounds_toArray, List.set_cons_zero, List.set_cons_succ]
        refine wpAnyH_take (i := 4) (v := .pointer (some ⟨w.heap.size, 0, none⟩)) rfl (by kernel_rfl) (by kernel_rfl) (by kernel_rfl) (fun _ _ _ h => h) (Or.inl ⟨by rfl, fun w hS => by first | (go_simp; done) | (go_simp; with_reducible rfl)⟩) hHeld ?_
        try simp only [Act.put, List.getElem_toArray, List.getElem_cons_zero, List.getElem_cons_succ, List.setIfInBounds_toArray, List.set_cons_zero, List.set_cons_succ]
        refine wpAnyH_take (i := 5) (v := .string sf) rfl (by kernel_rfl) (by kernel_rfl) (by kernel_rfl) (fun _ _ _ h => h) (Or.inl ⟨by rfl, fun w hS => by (have c0 := (BlkIs.cell hS.1 0).trans (rfl : _ = some (Value.string sf)); go_simp)⟩) hHeld ?_
        try simp only [Act.put, List.getElem_toArray, List.getElem_cons_zero, List.getElem_cons_succ, List.setIfInBounds_toArray, List.set_cons_zero, List.set_cons_succ]
        refine wpAnyH_take (i := 6) (v := .string sm3) rfl (by kernel_rfl) (by kernel_rfl) (by kernel_rfl) (fun _ _ _ h => h) (Or.inl ⟨by rfl, fun w hS => by (go_simp; omega)⟩) hHeld ?_
        try simp only [Act.put, List.getElem_toArray, List.getElem_cons_zero, List.getElem_cons_succ, List.setIfInBounds_toArray, List.set_cons_zero, List.set_cons_succ]
        refine wpAnyH_take (i := 7) (v := .pointer (some ⟨w.heap.size, 2, none⟩)) rfl (by kernel_rfl) (by kernel_rfl) (by kernel_rfl) (fun _ _ _ h => h) (Or.inl ⟨by rfl, fun w hS => by first | (go_simp; done) | (go_simp; with_reducible rfl)⟩) hHeld ?_
        try simp only [Act.put, List.getElem_toArray, List.getElem_cons_zero, List.getElem_cons_succ, List.setIfInBounds_toArray, List.set_cons_zero, List.set_cons_succ]
        refine wpAnyH_take (i := 8) (v := .int .i64 v) rfl (by kernel_rfl) (by kernel_rfl) (by kernel_rfl) (fun _ _ _ h => h) (Or.inl ⟨by rfl, fun w hS => by (have c0 := (BlkIs.cell hS.1 2).trans (rfl : _ = some (Value.int .i64 v)); go_simp)⟩) hHeld ?_
        try simp only [Act.put, List.getElem_toArray, List.getElem_cons_zero, List.getElem_cons_succ, List.setIfInBounds_toArray, List.set_cons_zero, List.set_cons_succ]
        refine wpAnyH_ready (rs := [9]) (by kernel_rfl) (by simp) ?_
        refine AllReadyH.cons rfl (fun K hK => ?_) AllReadyH.nil
        go_simp
        go_wp2_with (first | (refine (HFM.out _ HBD.out).mono ?_; rintro e w5 ⟨rfl, hb5⟩) | fail)
        refine hK.out _ _ ?_ (fun hHeld => ?_)
        · exact ⟨(hb5.block _ HQD.out.lt).trans HQD.out, HBD.out.trans (hb5.mono HBD.out.size)⟩
        clear hK K
        try simp only [Act.put, List.getElem_toArray, List.getElem_cons_zero, List.getElem_cons_succ, List.setIfInBounds_toArray, List.set_cons_zero, List.set_cons_succ]
        have HB5 := Lib.hid (HBD.out.trans (hb5.mono HBD.out.size))
        have HQ5 : Hid (BlkIs w5 w.heap.size 34 #[.string sf, .slice AT k cT, .int .i64 v]) := Lib.hid ((hb5.block _ HQD.out.lt).trans HQD.out)
        clear hb5
        refine wpAnyH_take (i := 10) (v := .string sm4) rfl (by kernel_rfl) (by kernel_rfl) (by kernel_rfl) (fun _ _ _ h => h) (Or.inl ⟨by rfl, fun w hS => by (go_simp; omega)⟩) hHeld ?_
        try simp only [Act.put, List.getElem_toArray, List.getElem_cons_zero, List.getElem_cons_succ, List.setIfInBounds_toArray, List.set_cons_zero, List.set_cons_succ]
        have HB6 := Lib.hid (HB5.out.alloc HB5.out.size (.cells #[.string (⟨#[77, 73, 77, 69, 45, 86, 101, 114, 115, 105, 111, 110, 58, 32, 49, 46, 48]⟩ : ByteArray), .string sm1, .string ⟨#[]⟩, .string sm2, .string (⟨#[67, 111, 110, 116, 101, 110, 116, 45, 84, 121, 112, 101, 58, 32, 116, 101, 120, 116, 47, 112, 108, 97, 105, 110]⟩ : ByteArray), .string ⟨#[]⟩, .string sm3, .string sm4] 9))
        have HQ6 := Lib.hid (HQ5.out.alloc (.cells #[.string (⟨#[77, 73, 77, 69, 45, 86, 101, 114, 115, 105, 111, 110, 58, 32, 49, 46, 48]⟩ : ByteArray), .string sm1, .string ⟨#[]⟩, .string sm2, .string (⟨#[67, 111, 110, 116, 101, 110, 116, 45, 84, 121, 112, 101, 58, 32, 116, 101, 120, 116, 47, 112, 108, 97, 105, 110]⟩ : ByteArray), .string ⟨#[]⟩, .string sm3, .string sm4] 9))
        have HO6 := Lib.hid (own_lit w5 _ t0 HT0.out (by rw [HTN.out.1]; decide))
        refine wpAnyH_ready (rs := [11]) (by kernel_rfl) (by simp) ?_
        refine AllReadyH.cons rfl (fun K hK => ?_) AllReadyH.nil
        go_simp
        refine hK.out _ _ ?_ (fun hHeld => ?_)
        · exact ⟨HQ6.out, HB6.out⟩
        clear hK K
        try simp only [Act.put, List.getElem_toArray, List.getElem_cons_zero, List.getElem_cons_succ, List.setIfInBounds_toArray, List.set_cons_zero, List.set_cons_succ]
        refine wpAnyH_take (i := 12) (v := .slice (some ⟨w5.heap.size, 0, none⟩) 8 8) rfl (by kernel_rfl) (by kernel_rfl) (by kernel_rfl) (fun _ _ _ h => h) (Or.inl ⟨by rfl, fun w hS => by first | (go_simp; done) | (go_simp; with_reducible rfl)⟩) hHeld ?_
        try simp only [Act.put, List.getElem_toArray, List.getElem_cons_zero, List.getElem_cons_succ, List.setIfInBounds_toArray, List.set_cons_zero, List.set_cons_succ]
        refine wpAnyH_done (by kernel_rfl) ?_ _
        have HO6b : Hid ((w5.alloc (.cells #[.string (⟨#[77, 73, 77, 69, 45, 86, 101, 114, 115, 105, 111, 110, 58, 32, 49, 46, 48]⟩ : ByteArray), .string sm1, .string ⟨#[]⟩, .string sm2, .string (⟨#[67, 111, 110, 116, 101, 110, 116, 45, 84, 121, 112, 101, 58, 32, 116, 101, 120, 116, 47, 112, 108, 97, 105, 110]⟩ : ByteArray), .string ⟨#[]⟩, .string sm3, .string sm4] 9)).ownsRow w.heap.size 9 1 (.slice (some ⟨w5.heap.size, 0, none⟩) 8 8) t0.length (tv t0)) := Lib.hid (by have := own_more HO6.out HB5.out.size; rw [HTN.out.1] at this ⊢; exact this)
        clear HO6 HBD HQD em1 em3 em4 zm1 zm3 zm4
        generalize w5.alloc (.cells #[.string (⟨#[77, 73, 77, 69, 45, 86, 101, 114, 115, 105, 111, 110, 58, 32, 49, 46, 48]⟩ : ByteArray), .string sm1, .string ⟨#[]⟩, .string sm2, .string (⟨#[67, 111, 110, 116, 101, 110, 116, 45, 84, 121, 112, 101, 58, 32, 116, 101, 120, 116, 47, 112, 108, 97, 105, 110]⟩ : ByteArray), .string ⟨#[]⟩, .string sm3, .string sm4] 9) = w6 at *
        have z1k := (BlkIs.cell HQ6.out 1).trans (rfl : _ = some (Value.slice AT k cT))
        rename_i w7
        clear hkn
        generalize w5.heap.size = g5 at *
        rename World => wc
        go_wp2_with fail
        go_loopw [8, 69] (fun x i wr => ∃ j : Nat, j ≤ k ∧ i = .int .i64 (j : Nat) ∧ Hid (Below w.heap.size w wr) ∧ Hid (BlkIs wr w.heap.size 34 #[.string sf, .slice AT k cT, .int .i64 v]) ∧ Hid (wr.ownsRow w.heap.size 9 1 x (t0 ++ (ps.take j).map rcp).length (tv (t0 ++ (ps.take j).map rcp)))) (fun _ i _ => k + 1 - (intOf i).toNat)
        case atStart => exact ⟨0, Nat.zero_le _, rfl, HB6, HQ6, Lib.hid (by rw [List.take_zero, List.map_nil, List.append_nil]; exact HO6b.out)⟩
        case round =>
          obtain ⟨j, hj, rfl, HBK, HQK, HOK⟩ := hrel
          have hN := HBK.out.size
          by_cases hlt : j < k
          · obtain ⟨g, o, rfl, hg, hX⟩ := HEL.out j hlt
            have hcell := hX wr HBK.out
            obtain ⟨sk, hsk, hrk, zsk⟩ := HRC.out j
            rw [← hsk] at hcell
            have HMJ := Lib.hid (HMAP.out j hlt)
            have hjk : (j : Int) < (k : Int) := by omega
            clear hX hsk
            generalize rcp (ps.getD j []) = rp at *
            have hown := HOK.out
            have HTK : Hid ((t0 ++ (ps.take j).map rcp).length ≤ 1000) := Lib.hid (by have := List.length_take_le j ps; rw [List.length_append, List.length_map, HTN.out.1]; omega)
            generalize htk : t0 ++ (ps.take j).map rcp = tk at *
            have HTKE := Lib.hid htk
            clear htk
            generalize htn : tk.length = tkn at *
            have HTKN := Lib.hid htn
            clear htn HOK
            obtain ⟨A8, c8, rfl, _, _⟩ := own_slice hown
            have HOW := Lib.hid hown
            have HBA := Lib.hid (HBK.out.alloc hN (.cells #[.string (str rp)] 9))
            have HQA := Lib.hid (HQK.out.alloc (.cells #[.string (str rp)] 9))
            have HOA : Hid ((wr.alloc (.cells #[.string (str rp)] 9)).ownsRow w.heap.size 9 1 (.slice A8 tkn c8) tk.length (tv tk)) := Lib.hid (by rw [HTKN.out]; exact own_kept HOW.out (belowA wr _) (Nat.le_refl _))
            have hcx : (wr.alloc (.cells #[.string (str rp)] 9)).cell? ⟨wr.heap.size, 0, none⟩ = some (.string (str rp)) := (cell_of_row _ wr.heap.size 0 #[.string (str rp)] 9 (0, 0) (heap_alloc_new wr _)).trans rfl
            have HCX := Lib.hid hcx
            clear hown hcx
            go_wp2_with (first
              | (refine appT (.tmp 73) (.tmp 76) rfl rfl w.heap.size _ tk rp rfl HOA.out wr.heap.size 1 rfl HCX.out (by simp) (by have := HTK.out; rw [HTKN.out]; omega) (by simp; omega) ?_; intro v9 w9 h1 h2; have HO9 := Lib.hid h1; have HB9 := Lib.hid (HBA.out.grown h2 HBA.out.size (fun q hq => (HOA.out.lt q hq).1)); have HQ9 := Lib.hid (HQA.out.grown h2 (own_row HOA.out HQA.out (by decide))); clear h1 h2)
              | fail)
            go_roundw
            case rel => exact ⟨j + 1, by omega, by go_num, HB9, HQ9, Lib.hid (by rw [HMJ.out, ← List.append_assoc, HTKE.out]; exact HO9.out)⟩
            case measure => simp [intOf]; omega
          · obtain rfl : j = k := by omega
            have hjk : ¬ (j : Int) < (j : Int) := by omega
            have hown := HOK.out
            have hpt : ps.take j = ps := List.take_of_length_le (by rw [HPN.out]; exact Nat.le_refl _)
            rw [hpt] at hown
            have HTK : Hid ((t0 ++ ps.map rcp).length ≤ 1000) := Lib.hid (by rw [List.length_append, List.length_map, HTN.out.1, HPN.out]; omega)
            clear hpt HOK
            generalize t0 ++ ps.map rcp = tk at *
            generalize htn : tk.length = tkn at *
            have HTKN := Lib.hid htn
            clear htn
            obtain ⟨A8, c8, rfl, _, _⟩ := own_slice hown
            have HOW := Lib.hid hown
            have HBA := Lib.hid (HBK.out.alloc hN (.cells #[.string sm2, .string (⟨#[67, 111, 110, 116, 101, 110, 116, 45, 84, 121, 112, 101, 58, 32, 109, 101, 115, 115, 97, 103, 101, 47, 114, 102, 99, 56, 50, 50]⟩ : ByteArray), .string ⟨#[]⟩] 9))
            have HOA : Hid ((wr.alloc (.cells #[.string sm2, .string (⟨#[67, 111, 110, 116, 101, 110, 116, 45, 84, 121, 112, 101, 58, 32, 109, 101, 115, 115, 97, 103, 101, 47, 114, 102, 99, 56, 50, 50]⟩ : ByteArray), .string ⟨#[]⟩] 9)).ownsRow w.heap.size 9 1 (.slice A8 tkn c8) tk.length (tv tk)) := Lib.hid (by rw [HTKN.out]; exact own_kept HOW.out (belowA wr _) (Nat.le_refl _))
            have HXA := Lib.hid (tx_lit wr _ t2 HT2.out)
            have HT2L := Lib.hid HTN.out.2
            have HTX := Lib.hid HTX1.out
            clear hown
            generalize htt : tk ++ t2 = tt at *
            have HTT := Lib.hid htt
            clear htt
            go_wp2_with (first
              | (refine appTs (.tmp 79) (.tmp 82) rfl rfl (ps := tk) (qs := t2) (B := wr.heap.size + 1) (A := some ⟨wr.heap.size, 0, none⟩) (c := 3) rfl HOA.out (by rw [HT2L.out]; rfl) HXA.out (by have := HTK.out; rw [HTKN.out, HT2L.out]; omega) (by simp; omega) ?_; intro v9 w9 h1 h2; rw [HTT.out] at h1; generalize hq : tt.length = n9 at h1; have HN9 := Lib.hid hq; clear hq; obtain ⟨A9, c9, rfl, _, _⟩ := own_slice h1; have HO9 := Lib.hid h1; have HB9 := Lib.hid (HBA.out.grown h2 HBA.out.size (fun q hq => (HOA.out.lt q hq).1)); clear h1 h2)
              | fail)
            have HN9L : Hid (n9 ≤ 2000) := Lib.hid (by rw [← HN9.out, ← HTT.out, List.length_append, HTKN.out, HT2L.out]; have := HTK.out; omega)
            refine (lines_any (Tx.of_own HO9.out) n9 c9 HN9.out (by have := HN9L.out; omega) (by rw [HTX.out]; omega)).mono ?_
            rintro r w10 ⟨v10, rfl, ho10, hb10⟩
            rw [HTX.out] at ho10
            have HB10 := Lib.hid (HB9.out.trans (hb10.mono HB9.out.size))
            obtain ⟨A10, c10, rfl, hc10, hm10⟩ := own_slice ho10
            have HO10 := Lib.hid ho10
            have HL11 := Lib.hid (lines_any ((tx_lit w10 _ t3 HT3.out).more (by simp)) 2 2 HT3N.out (by decide) (by rw [HTX2.out]; omega))
            have HB11 := Lib.hid (HB10.out.alloc HB10.out.size (.cells #[.string ⟨#[]⟩, .string sm5] 9))
            have HO11 : Hid (Own5 (w10.alloc (.cells #[.string ⟨#[]⟩, .string sm5] 9)) w9.heap.size (.slice A10 hd.length c10) hd) := Lib.hid (own_kept HO10.out (belowA w10 _) (Nat.le_refl _))
            clear ho10 hb10 HBA HOA HXA
            generalize hhn : hd.length = hn at *
            have HHN := Lib.hid hhn
            clear hhn
            go_wp2_with fail
            refine HL11.out.mono ?_
            rintro r w12 ⟨v12, rfl, ho12, hb12⟩
            rw [HTX2.out] at ho12
            have HB12 := Lib.hid (HB11.out.trans (hb12.mono HB11.out.size))
            obtain ⟨A12, c12, rfl, hc12, hm12⟩ := own_slice ho12
            have HO12 : Hid (Own5 w12 w9.heap.size (.slice A10 hn c10) hd) := Lib.hid (own_kept HO11.out hb12 (Nat.le_refl _))
            have HT12 := Lib.hid ho12
            have HCO : Hid (∀ h, h = w12.alloc (.cells #[.slice A10 hn c10, .slice A ln c, .slice A12 tl.length c12] 22) → Calls Tryz.prog 74 #[.slice (some ⟨w12.heap.size, 0, none⟩) 3 3] h fun r w' => ∃ v, r = .returned v ∧ Own5 w' h.heap.size v rl ∧ Below h.heap.size h w') := Lib.hid fun h hh => by
              have hbh : Below w12.heap.size w12 h := by rw [hh]; exact belowA w12 _
              have hzz : h.heap.size = w12.heap.size + 1 := by rw [hh]; simp
              have hcell : h.heap[w12.heap.size]? = some (.cells #[.slice A10 hn c10, .slice A ln c, .slice A12 tl.length c12] 22 (0, 0)) := by rw [hh]; exact heap_alloc_new _ _
              have b1 : Bts h w12.heap.size A10 hd := (Own5.bts HO12.out).below hbh
              have b3 : Bts h w12.heap.size A12 tl := (Own5.bts HT12.out).below hbh
              have b2 : Bts h w12.heap.size A l := (HBB.out h (HB12.out.trans (hbh.mono HB12.out.size))).more HB12.out.size
              have := Dt.concat_any (ls := [hd, l, tl]) (three_rows (b1.more (by omega)) (b2.more (by omega)) (b3.more (by omega)) (by rw [HHN.out]; exact hc10) hm10 (by rw [HLN.out]; exact hc) hcm hc12 hm12 (by omega)
                ((cell_of_row _ _ 0 _ _ _ hcell).trans (by rw [HHN.out]; rfl)) ((cell_of_row _ _ 1 _ _ _ hcell).trans (by rw [HLN.out]; rfl)) ((cell_of_row _ _ 2 _ _ _ hcell).trans rfl)) 3 (by have h1 := HHP.out; have h2 := HHN.out; simp only [List.flatten_cons, List.flatten_nil, List.length_append, List.length_nil]; omega) (by have h2 := HHN.out; have h3 := HLN.out; simp only [List.flatten_cons, List.flatten_nil, List.length_append, List.length_nil]; omega) (by simp)
              rw [HREP.out] at this
              exact this
            have HB13 := Lib.hid (HB12.out.alloc HB12.out.size (.cells #[.slice A10 hn c10, .slice A ln c, .slice A12 tl.length c12] 22))
            clear ho12 hb12
            generalize tl.length = tln at *
            go_wp2_with fail
            refine (HCO.out _ rfl).mono ?_
            rintro r w14 ⟨v14, rfl, ho14, hb14⟩
            have HB14 := Lib.hid (HB13.out.trans (hb14.mono HB13.out.size))
            have HO14 := Lib.hid (own_more ho14 HB13.out.size)
            clear ho14 hb14
            go_wp2_with fail
            go_ret
            exact ⟨HB14.out, .inl ⟨trivial, _, rfl, HO14.out⟩⟩

end Mi
end Go.Proofs.YtamekflgidfnfaaGreatDoor
