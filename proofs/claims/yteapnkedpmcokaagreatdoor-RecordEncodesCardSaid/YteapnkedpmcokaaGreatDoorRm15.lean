/- SeMem RcMath. Conditions: as stated at each. -/
import Derived.Test.YteapnkedpmcokaaGreatDoorRm09
import Derived.Test.YteapnkedpmcokaaGreatDoorRm14
import Derived.Laws.StructEq
import Derived.Test.YteapnkedpmcokaaGreatDoorRm06
/- Seals as plain data; their cells, their bytes; seals compared. Conditions: none. -/
namespace Go.Proofs.YteapnkedpmcokaaGreatDoor
set_option maxRecDepth 100000
open Go.RowKit Go
structure Sl where
  seg : Int
  count : Int
  root : List UInt8
  prev : List UInt8
/-- both sums are sums. -/
def Sl.ok (s : Sl) : Prop := s.root.length = 32 ∧ s.prev.length = 32
/-- a seal's cells. -/
def sc (s : Sl) : List Value := [.int .i64 s.seg, .int .i64 s.count] ++ (bv s.root ++ bv s.prev)
def zeroS : Sl := ⟨0, 0, List.replicate 32 0, List.replicate 32 0⟩
theorem zeroS_ok : zeroS.ok := ⟨by simp [zeroS], by simp [zeroS]⟩
theorem sc_length {s : Sl} (h : s.ok) : (sc s).length = 66 := by simp [sc, bv_length, h.1, h.2]
theorem sc_one (s : Sl) : ∀ u ∈ sc s, u.oneCell' = true := by
  intro u hu
  simp only [sc, List.mem_append, List.mem_cons, List.not_mem_nil, or_false] at hu
  rcases hu with (rfl | rfl) | hu | hu
  · rfl
  · rfl
  · exact bv_one _ u hu
  · exact bv_one _ u hu
theorem sc_all (s : Sl) : (sc s).toArray.all (·.oneCell') = true := Array.all_eq_true_iff_forall_mem.2 fun u hu => sc_one s u (by simpa using hu)
theorem info39 : (Tryz.prog.info? 32).map (fun i => (i.zero, i.size, i.bytes)) = some (some (.agg (sc zeroS).toArray), 66, 80) := by kernel_rfl
theorem isz39s {s : Sl} (h : s.ok) : (Tryz.prog.info? 32).map (·.size) = some (sc s).length := by rw [sc_length h]; kernel_rfl
theorem isz39a {s : Sl} (h : s.ok) : (Tryz.prog.info? 32).map (·.size) = some (sc s).toArray.size := by rw [List.size_toArray]; exact isz39s h
theorem sc_size {s t : Sl} (h : s.ok) (h' : t.ok) : (sc s).toArray.size = (sc t).toArray.size := by rw [List.size_toArray, List.size_toArray, sc_length h, sc_length h']
theorem load_wt {ops : Array Oper} {rest : List Oper} {op : Oper} {a : Act} {w : World} {Q : Exit → Act → World → Prop} (hw : Region.wanted op (yielded ops a.tmps) = true) (ty : TypeId) (x : Operand) (ho : op.op = .load ty x)
    (b o : Nat) (hx : a.eval x = .pointer (some ⟨b, o, none⟩)) (cs : List Value) (d : TypeDesc) (hc : w.rangeAt b o cs)
    (hu : Tryz.prog.underlying ty = some d) (hd : d.isRow = true) (hi : (Tryz.prog.info? ty).map (·.size) = some cs.length)
    (h : wpList Tryz.prog ops Q rest (a.put op.dst (.agg cs.toArray)) w) : wpList Tryz.prog ops Q (op :: rest) a w :=
  BigFrame.wpList_want hw fun _ hK => wp_load_mid ty x ho b o hx cs d hc hu hd hi (hK _ _ h)
/-- seals alike. -/
def eqS (x y : Sl) : Bool := (x.seg == y.seg) && ((x.count == y.count) && ((x.root == y.root) && (x.prev == y.prev)))
theorem eqS_iff {x y : Sl} : eqS x y = true ↔ x = y := by
  obtain ⟨a, b, c, d⟩ := x
  obtain ⟨a', b', c', d'⟩ := y
  simp [eqS]
theorem eqS_self (x : Sl) : eqS x x = true := eqS_iff.2 rfl
theorem run_eq24d (d : Nat) (a b : List UInt8) (ha : a.length = 32) (hb : b.length = 32) (w : World) : (Op.equalIn (d + 2) 28 (.agg (bv a).toArray) (.agg (bv b).toArray)).run Tryz.prog w = .ok (a == b) w := by
  obtain ⟨i, hi, _, _, _⟩ := info_parts info5
  have h := run_equalIn_array (P := Tryz.prog) w (d + 1) (bv a).toArray (bv b).toArray Tryz.underlying28 hi
  rw [show Tryz.prog.cellsOf 5 = 1 by kernel_rfl] at h
  rw [show d + 2 = (d + 1) + 1 from rfl, h, run_items d a b w _ (fun i hi => by rw [ha, hb]; simpa using hi), eq_sums a b ha hb]
theorem fields39 : (Tryz.prog.fieldsOf 32).toList = [⟨"Seg", 3, 0, false, "", "", 0⟩, ⟨"Count", 3, 1, false, "", "", 8⟩, ⟨"Root", 28, 2, false, "", "", 16⟩, ⟨"Prev", 28, 34, false, "", "", 48⟩] := by kernel_rfl
theorem part_int (cs : Array Value) (o : Nat) (v : Value) (w : World) (h : cs[o]? = some v) : (part 3 cs o).run Tryz.prog w = .ok v w := by
  simp [part, isAgg, run_underlying Tryz.underlying3, Sem.run_bind, h]
theorem part_sum (a b c : List Value) (o : Nat) (w : World) (ha : a.length = o) (hb : b.length = 32) : (part 28 (a ++ (b ++ c)).toArray o).run Tryz.prog w = .ok (.agg b.toArray) w := by
  obtain ⟨i, hi, hz, h0, h2⟩ := info_parts info26
  have e : List.take 32 (List.drop o (a ++ (b ++ c))) = b := by
    rw [List.drop_left' ha, List.take_left' hb]
  simp [part, isAgg, run_underlying Tryz.underlying28, Sem.run_bind, sizeOf, typeInfo, hi, h0, e]
theorem eqFields_step {P : Program} {w : World} {d : Nat} {xs ys : Array Value} {n : String} {t : TypeId} {o : Nat} {em : Bool} {tg pk : String} {bo : Nat} {fs : List Field} {a b : Value} {r : Bool} (hn : n ≠ "_") (ha : (part t xs o).run P w = .ok a w) (hb : (part t ys o).run P w = .ok b w)
    (hr : (Op.equalIn d t a b).run P w = .ok r w) : (Op.eqFields d xs ys (⟨n, t, o, em, tg, pk, bo⟩ :: fs)).run P w = if r then (Op.eqFields d xs ys fs).run P w else .ok false w := by
  simp only [Op.eqFields, if_pos hn, Sem.run_bind, ha, hb, hr, Result.andThen_ok]
  cases r
  · rfl
  · rfl
theorem run_eq39 (x y : Sl) (hx : x.ok) (hy : y.ok) (w : World) : (Op.equalIn 10000 32 (.agg (sc x).toArray) (.agg (sc y).toArray)).run Tryz.prog w = .ok (eqS x y) w := by
  have p0 : ∀ s : Sl, (part 3 (sc s).toArray 0).run Tryz.prog w = .ok (.int .i64 s.seg) w := fun s => part_int _ _ _ w rfl
  have p1 : ∀ s : Sl, (part 3 (sc s).toArray 1).run Tryz.prog w = .ok (.int .i64 s.count) w := fun s => part_int _ _ _ w rfl
  have p2 : ∀ s : Sl, s.ok → (part 28 (sc s).toArray 2).run Tryz.prog w = .ok (.agg (bv s.root).toArray) w := fun s h => part_sum _ (bv s.root) (bv s.prev) 2 w rfl (by rw [bv_length, h.1])
  have p3 : ∀ s : Sl, s.ok → (part 28 (sc s).toArray 34).run Tryz.prog w = .ok (.agg (bv s.prev).toArray) w := fun s h => by
    have := part_sum ([.int .i64 s.seg, .int .i64 s.count] ++ bv s.root) (bv s.prev) [] 34 w (by simp [bv_length, h.1]) (by rw [bv_length, h.2])
    rwa [List.append_nil, List.append_assoc] at this
  rw [show (10000 : Nat) = 9999 + 1 from rfl, run_equalIn_struct w 9999 32 _ _ (by kernel_rfl) (by kernel_rfl), fields39]
  have q0 : (Op.equalIn 9999 3 (.int .i64 x.seg) (.int .i64 y.seg)).run Tryz.prog w = .ok (x.seg == y.seg) w := by
    rw [show (9999 : Nat) = 9998 + 1 from rfl]
    exact run_equalIn_int (P := Tryz.prog) w 9998 3 .i64 .i64 x.seg y.seg Tryz.underlying3
  have q1 : (Op.equalIn 9999 3 (.int .i64 x.count) (.int .i64 y.count)).run Tryz.prog w = .ok (x.count == y.count) w := by
    rw [show (9999 : Nat) = 9998 + 1 from rfl]
    exact run_equalIn_int (P := Tryz.prog) w 9998 3 .i64 .i64 x.count y.count Tryz.underlying3
  have q2 : (Op.equalIn 9999 28 (.agg (bv x.root).toArray) (.agg (bv y.root).toArray)).run Tryz.prog w = .ok (x.root == y.root) w := by
    rw [show (9999 : Nat) = 9997 + 2 from rfl]
    exact run_eq24d 9997 x.root y.root hx.1 hy.1 w
  have q3 : (Op.equalIn 9999 28 (.agg (bv x.prev).toArray) (.agg (bv y.prev).toArray)).run Tryz.prog w = .ok (x.prev == y.prev) w := by
    rw [show (9999 : Nat) = 9997 + 2 from rfl]
    exact run_eq24d 9997 x.prev y.prev hx.2 hy.2 w
  rw [eqFields_step (by decide) (p0 x) (p0 y) q0, eqFields_step (by decide) (p1 x) (p1 y) q1, eqFields_step (by decide) (p2 x hx) (p2 y hy) q2, eqFields_step (by decide) (p3 x hx) (p3 y hy) q3]
  unfold eqS
  generalize (x.seg == y.seg) = b0
  generalize (x.count == y.count) = b1
  generalize (x.root == y.root) = b2
  generalize (x.prev == y.prev) = b3
  cases b0
  · rfl
  · cases b1
    · rfl
    · cases b2
      · rfl
      · cases b3
        · rfl
        · rfl
/-- byte k of a number, the lowest is byte 0. -/
def nb (n : Int) (k : Nat) : UInt8 := UInt8.ofNat (n / (256 ^ k : Nat) % 256).toNat
theorem nb_int (n : Int) (k : Nat) : n / (256 ^ k : Nat) % 256 = ((nb n k).toNat : Int) := by
  have h0 : 0 ≤ n / (256 ^ k : Nat) % 256 := Int.emod_nonneg _ (by omega)
  have h1 : n / (256 ^ k : Nat) % 256 < 256 := Int.emod_lt_of_pos _ (by omega)
  unfold nb
  rw [UInt8.toNat_ofNat']
  omega
def fourB (n : Int) : List UInt8 := [nb n 3, nb n 2, nb n 1, nb n 0]
def bytesS (s : Sl) : List UInt8 := fourB s.seg ++ (fourB s.count ++ (s.root ++ s.prev))
theorem bytesS_length {s : Sl} (h : s.ok) : (bytesS s).length = 72 := by simp [bytesS, fourB, h.1, h.2]
/-- what four bytes tell. -/
def numS (b : List UInt8) : Nat := (((b.getD 0 0).toNat * 256 + (b.getD 1 0).toNat) * 256 + (b.getD 2 0).toNat) * 256 + (b.getD 3 0).toNat
theorem numS_four {n : Int} (h : 0 ≤ n) (h' : n < 4294967296) (r : List UInt8) : (numS (fourB n ++ r) : Int) = n := by
  have e0 := nb_int n 0
  have e1 := nb_int n 1
  have e2 := nb_int n 2
  have e3 := nb_int n 3
  simp only [Nat.pow_zero, Nat.pow_one, show (256 ^ 2 : Nat) = 65536 from rfl, show (256 ^ 3 : Nat) = 16777216 from rfl] at e0 e1 e2 e3
  simp only [numS, fourB, List.cons_append, List.getD_cons_zero, List.getD_cons_succ]
  omega
def parseS (b : List UInt8) : Sl := ⟨numS b, numS (b.drop 4), (b.drop 8).take 32, (b.drop 40).take 32⟩
theorem parseS_ok {b : List UInt8} (h : b.length = 72) : (parseS b).ok := ⟨by simp [parseS, h], by simp [parseS, h]⟩
theorem parse_bytes {s : Sl} (h : s.ok) (h1 : 0 ≤ s.seg) (h2 : s.seg < 4294967296) (h3 : 0 ≤ s.count) (h4 : s.count < 4294967296) : parseS (bytesS s) = s := by
  obtain ⟨seg, count, root, prev⟩ := s
  have e1 := numS_four h1 h2 (fourB count ++ (root ++ prev))
  have e2 := numS_four h3 h4 (root ++ prev)
  have l1 : ∀ n, (fourB n).length = 4 := fun n => rfl
  have d4 : (bytesS ⟨seg, count, root, prev⟩).drop 4 = fourB count ++ (root ++ prev) := by unfold bytesS; exact List.drop_left' rfl
  have d8 : (bytesS ⟨seg, count, root, prev⟩).drop 8 = root ++ prev := by unfold bytesS; rw [← List.append_assoc]; exact List.drop_left' rfl
  have d40 : (bytesS ⟨seg, count, root, prev⟩).drop 40 = prev := by
    rw [show (40 : Nat) = 8 + 32 from rfl, ← List.drop_drop, d8]
    exact List.drop_left' h.1
  unfold parseS
  rw [d4, d8, d40]
  have h1' : root.length = 32 := h.1
  have h2' : prev.length = 32 := h.2
  dsimp only at e1 e2 ⊢
  rw [show bytesS ⟨seg, count, root, prev⟩ = fourB seg ++ (fourB count ++ (root ++ prev)) from rfl, e1, e2, List.take_left' h1', List.take_of_length_le (by omega)]
/-- how far seals are bound, from a place on. -/
def chainS (sum : Sl → List UInt8) : Int → List UInt8 → Nat → List Sl → Nat
  | _, _, k, [] => k
  | seg, prev, k, s :: r => if s.seg ≤ seg ∨ s.prev ≠ prev then k else chainS sum s.seg (sum s) (k + 1) r
end Go.Proofs.YteapnkedpmcokaaGreatDoor
/- Records as plain data: as bytes, read again, what is left of one that is purged. Conditions: none. -/
namespace Go.Proofs.YteapnkedpmcokaaGreatDoor
set_option maxRecDepth 100000
namespace Rc
abbrev L := List UInt8
structure R where
  kind : Int
  msg : En.M
  pid : Int
  pat : Int
  leaf : L
  sl : Sl
  nm : L
  who : L
def zeroM : En.M := ⟨0, [], [], [], 0, []⟩
def zero (k : Int) : R := ⟨k, zeroM, 0, 0, List.replicate 32 0, zeroS, [], []⟩
/-- the highest byte ahead. -/
def eightB (n : Int) : L := [nb n 7, nb n 6, nb n 5, nb n 4, nb n 3, nb n 2, nb n 1, nb n 0]
def num8 (b : L) : Nat := (((((((b.getD 0 0).toNat * 256 + (b.getD 1 0).toNat) * 256 + (b.getD 2 0).toNat) * 256 + (b.getD 3 0).toNat) * 256 + (b.getD 4 0).toNat) * 256 + (b.getD 5 0).toNat) * 256 + (b.getD 6 0).toNat) * 256 + (b.getD 7 0).toNat
def sgn8 (b : L) : Int := if num8 b < 9223372036854775808 then (num8 b : Int) else (num8 b : Int) - 18446744073709551616
theorem num8_eight {n : Int} (h : 0 ≤ n) (h' : n < 9223372036854775808) (r : L) : (num8 (eightB n ++ r) : Int) = n := by
  have e0 := nb_int n 0
  have e1 := nb_int n 1
  have e2 := nb_int n 2
  have e3 := nb_int n 3
  have e4 := nb_int n 4
  have e5 := nb_int n 5
  have e6 := nb_int n 6
  have e7 := nb_int n 7
  simp only [Nat.pow_zero, Nat.pow_one, show (256 ^ 2 : Nat) = 65536 from rfl, show (256 ^ 3 : Nat) = 16777216 from rfl, show (256 ^ 4 : Nat) = 4294967296 from rfl, show (256 ^ 5 : Nat) = 1099511627776 from rfl, show (256 ^ 6 : Nat) = 281474976710656 from rfl, show (256 ^ 7 : Nat) = 72057594037927936 from rfl] at e0 e1 e2 e3 e4 e5 e6 e7
  simp only [num8, eightB, List.cons_append, List.getD_cons_zero, List.getD_cons_succ]
  omega
theorem sgn8_eight {n : Int} (h : 0 ≤ n) (h' : n < 9223372036854775808) (r : L) : sgn8 (eightB n ++ r) = n := by
  have e := num8_eight h h' r
  unfold sgn8
  rw [if_pos (by omega), e]
def sealB (s : Sl) : Bool := decide (1 ≤ s.seg ∧ s.seg ≤ 999999 ∧ 0 ≤ s.count ∧ s.count < 4294967296)
/-- a record's bytes, the error's number. -/
def encR (r : R) : L × Int :=
  if r.kind = 1 then (if En.okB r.msg then (1 :: En.putS (En.fldS r.msg), 0) else ([], 150))
  else if r.kind = 2 then (if 1 ≤ r.pid ∧ r.pid ≤ 1099511627776 ∧ 0 ≤ r.pat then (2 :: (eightB r.pid ++ (eightB r.pat ++ r.leaf)), 0) else ([], 160))
  else if r.kind = 3 then (if sealB r.sl then (3 :: bytesS r.sl, 0) else ([], 160))
  else if r.kind = 4 then (if Ho.holdS (r.nm, r.who) then (4 :: En.putS [r.nm, r.who], 0) else ([], 160))
  else if r.kind = 5 then (if Ho.holdS (r.nm, []) then (5 :: En.putS [r.nm], 0) else ([], 160))
  else ([], 160)
/-- two parts at the beginning, nothing where one lacks. -/
def twoS (b : L) : L × L := match En.takeS b with
  | none => ([], [])
  | some (p, r) => (p, match En.takeS r with | none => [] | some (q, _) => q)
def candR : L → R
  | [] => zero 0
  | k :: b => if k = 1 then { zero 1 with msg := (En.decS b).getD zeroM }
    else if k = 2 then { zero 2 with pid := sgn8 b, pat := sgn8 (b.drop 8), leaf := (b.drop 16).take 32 }
    else if k = 3 then { zero 3 with sl := parseS b }
    else if k = 4 then { zero 4 with nm := (twoS b).1, who := (twoS b).2 }
    else if k = 5 then { zero 5 with nm := (twoS b).1 }
    else zero k.toNat
def lenOk : L → Bool
  | [] => false
  | k :: b => if k = 2 then decide (b.length = 48) else if k = 3 then decide (b.length = 72) else true
def decR (b : L) : Option R := if lenOk b = true ∧ encR (candR b) = (b, 0) then some (candR b) else none
theorem dec_some {b : L} {r : R} (h : decR b = some r) : r = candR b ∧ encR r = (b, 0) ∧ lenOk b = true := by
  unfold decR at h
  split at h
  · next hc =>
    obtain rfl := Option.some.inj h
    exact ⟨rfl, hc.2, hc.1⟩
  · cases h
/-- what a kind has. -/
def own (r : R) : R :=
  if r.kind = 1 then { zero 1 with msg := r.msg }
  else if r.kind = 2 then { zero 2 with pid := r.pid, pat := r.pat, leaf := r.leaf }
  else if r.kind = 3 then { zero 3 with sl := r.sl }
  else if r.kind = 4 then { zero 4 with nm := r.nm, who := r.who }
  else if r.kind = 5 then { zero 5 with nm := r.nm }
  else zero r.kind
/-- numbers of 64 bits, sums of 32 bytes. -/
structure Wf (r : R) : Prop where
  at_ : r.msg.at_ ≤ 9223372036854775807
  pat : r.pat < 9223372036854775808
  leaf : r.leaf.length = 32
  sl : r.sl.ok
theorem enc_own (r : R) : encR (own r) = encR r := by
  unfold own
  split
  · next h => simp [encR, h, zero]
  split
  · next h => simp [encR, h, zero]
  split
  · next h => simp [encR, h, zero]
  split
  · next h => simp [encR, h, zero]
  split
  · next h => simp [encR, h, zero]
  · next h1 h2 h3 h4 h5 => simp [encR, h1, h2, h3, h4, h5, zero]
theorem hold_len {a c : L} (h : Ho.holdS (a, c) = true) : a.length ≤ 1000000 ∧ c.length ≤ 1000000 := by
  unfold Ho.holdS at h
  rw [Bool.and_eq_true, Bool.and_eq_true, decide_eq_true_eq, Bool.or_eq_true] at h
  dsimp only at h
  refine ⟨by have := h.1.2.2; omega, ?_⟩
  rcases h.2 with h | h
  · rw [beq_iff_eq] at h; rw [h]; simp
  · have := En.mail_len h; omega
theorem two_put {a c : L} (ha : a.length ≤ 1000000) (hc : c.length ≤ 1000000) : twoS (En.putS [a, c]) = (a, c) := by
  unfold twoS
  rw [En.put_cons, En.take_part _ ha]
  simp only []
  rw [show En.putS [c] = En.partS c ++ [] by simp [En.putS], En.take_part _ hc]
theorem two_one {a : L} (ha : a.length ≤ 1000000) : (twoS (En.putS [a])).1 = a := by
  unfold twoS
  rw [show En.putS [a] = En.partS a ++ [] by simp [En.putS], En.take_part _ ha]
/-- what is laid is found again. -/
theorem dec_enc {r : R} {b : L} (hw : Wf r) (h : encR r = (b, 0)) : decR b = some (own r) := by
  have key : lenOk b = true ∧ candR b = own r := by
    unfold encR at h
    unfold own
    split at h
    · next hk =>
      rw [if_pos hk]
      split at h
      · next ho =>
        injection h with h1 _
        subst h1
        have hd := En.dec_enc (m := r.msg) (b := En.putS (En.fldS r.msg)) hw.at_ (by unfold En.encS; rw [if_pos ho])
        exact ⟨rfl, by simp [candR, hd]⟩
      · injection h with _ h2; cases h2
    next hk1 =>
    rw [if_neg hk1]
    split at h
    · next hk =>
      rw [if_pos hk]
      split at h
      · next ho =>
        injection h with h1 _
        subst h1
        have l8 : ∀ n, (eightB n).length = 8 := fun n => rfl
        have e1 := sgn8_eight (n := r.pid) (by omega) (by omega) (eightB r.pat ++ r.leaf)
        have e2 := sgn8_eight (n := r.pat) ho.2.2 hw.pat r.leaf
        have d8 : (eightB r.pid ++ (eightB r.pat ++ r.leaf)).drop 8 = eightB r.pat ++ r.leaf := List.drop_left' rfl
        have d16 : (eightB r.pid ++ (eightB r.pat ++ r.leaf)).drop 16 = r.leaf := by
          rw [show (16 : Nat) = 8 + 8 from rfl, ← List.drop_drop, d8]
          exact List.drop_left' rfl
        refine ⟨by simp [lenOk, l8, hw.leaf], ?_⟩
        simp [candR, e1, e2, d8, d16, List.take_of_length_le (Nat.le_of_eq hw.leaf)]
      · injection h with _ h2; cases h2
    next hk2 =>
    rw [if_neg hk2]
    split at h
    · next hk =>
      rw [if_pos hk]
      split at h
      · next ho =>
        injection h with h1 _
        subst h1
        unfold sealB at ho
        rw [decide_eq_true_eq] at ho
        have e := parse_bytes hw.sl (by omega) (by omega) ho.2.2.1 ho.2.2.2
        have l := bytesS_length hw.sl
        exact ⟨by simp [lenOk, l], by simp [candR, e]⟩
      · injection h with _ h2; cases h2
    next hk3 =>
    rw [if_neg hk3]
    split at h
    · next hk =>
      rw [if_pos hk]
      split at h
      · next ho =>
        injection h with h1 _
        subst h1
        have e := two_put (hold_len ho).1 (hold_len ho).2
        exact ⟨rfl, by simp [candR, e]⟩
      · injection h with _ h2; cases h2
    next hk4 =>
    rw [if_neg hk4]
    split at h
    · next hk =>
      rw [if_pos hk]
      split at h
      · next ho =>
        injection h with h1 _
        subst h1
        have e := two_one (hold_len ho).1
        exact ⟨rfl, by simp [candR, e]⟩
      · injection h with _ h2; cases h2
    · injection h with _ h2; cases h2
  unfold decR
  rw [if_pos ⟨key.1, by rw [key.2, enc_own, h]⟩, key.2]
/-- a record's leaf, its number, what is left of it. -/
def leafR (lf : L → L) (b : L) : L := match decR b with
  | some r => if r.kind = 2 then r.leaf else lf b
  | none => lf b
def idR (b : L) : Int := match decR b with
  | some r => if r.kind = 1 then r.msg.id else if r.kind = 2 then r.pid else 0
  | none => 0
def purgeR (lf : L → L) (b : L) (t : Int) : L × Int := match decR b with
  | some r => if r.kind = 1 ∧ 0 ≤ t then encR { zero 2 with pid := r.msg.id, pat := t, leaf := leafR lf b } else ([], 160)
  | none => ([], 160)
/-- the tree stays. -/
theorem purge_stays {lf : L → L} {b x : L} {t : Int} (hl : ∀ b, (lf b).length = 32) (ht : t < 9223372036854775808) (h : purgeR lf b t = (x, 0)) :
    leafR lf x = lf b ∧ leafR lf b = lf b ∧ idR x = idR b ∧ x.length = 49 ∧ ∃ y, decR x = some y ∧ y.pat = t := by
  unfold purgeR at h
  cases hd : decR b with
  | none => rw [hd] at h; injection h with _ h2; cases h2
  | some r =>
    rw [hd] at h
    simp only [] at h
    split at h
    · next hk =>
      have hlb : leafR lf b = lf b := by unfold leafR; rw [hd]; simp [hk.1]
      have hib : idR b = r.msg.id := by unfold idR; rw [hd]; simp [hk.1]
      rw [hlb] at h
      have hx := dec_enc ⟨by simp [zero, zeroM], ht, hl b, by simp [zero, Sl.ok, zeroS]⟩ h
      have hx' : decR x = some { zero 2 with pid := r.msg.id, pat := t, leaf := lf b } := by rw [hx]; simp [own, zero]
      refine ⟨by unfold leafR; rw [hx']; rfl, hlb, by rw [hib]; unfold idR; rw [hx']; rfl, ?_, _, hx', rfl⟩
      unfold encR at h
      simp only [zero] at h
      rw [if_neg (by omega), if_pos trivial] at h
      split at h
      · injection h with h1 _
        rw [← h1]
        simp [eightB, hl b]
      · injection h with _ h2; cases h2
    · injection h with _ h2; cases h2
end Rc
end Go.Proofs.YteapnkedpmcokaaGreatDoor
