/- The contract of Grown: the program's. Conditions: as stated. -/
import Derived.Test.YtfgdochpnnkpmaaDoorMkVerify
import Derived.Test.YtfgdochpnnkpmaaDoorMkBoth
import Derived.Test.YtfgdochpnnkpmaaDoorMkKey
import Derived.BigFrameIn
namespace Go.Proofs.YtfgdochpnnkpmaaDoor
set_option maxRecDepth 100000
open Go.RowKit Go.Shelf Go
attribute [local go_sem] Oper.semAt_some
theorem lin_want {F : Fence} {k : Nat} {ops : Array Oper} {Q : Exit → Act → World → Prop} (hF : Wide F (k - 1) Tryd.prog) {o : Oper} {rest : List Oper} {a : Act} {w : World} (hw : Region.wanted o (yielded ops a.tmps) = true) (ty : TypeId) (x : Operand) (ho : o.op = .load ty x)
    (b off : Nat) (hx : a.eval x = .pointer (some ⟨b, off, none⟩)) (cs : List Value) (d : TypeDesc) (hc : w.rangeAt b off cs)
    (hu : Tryd.prog.underlying ty = some d) (hd : d.isRow = true) (hi : (Tryd.prog.info? ty).map (·.size) = some cs.length)
    (h : wpListIn F k Tryd.prog ops Q rest (a.put o.dst (.agg cs.toArray)) w) : wpListIn F k Tryd.prog ops Q (o :: rest) a w :=
  BigFrame.wpListIn_want hw fun _ hK => wpIn_of_wp hF (fun c hc => by (rw [ho] at hc; cases hc)) (wp_load_mid ty x ho b off hx cs d hc hu hd hi (hK _ _ h))
theorem full_any (n m : Nat) (w : World) : Calls Tryd.prog 41 #[.int .i64 (n : Nat), .int .i64 (m : Nat)] w fun e w' => e = .returned (.bool (decide (n = m))) ∧ w = w' := by
  by_cases h : n = m
  · subst h
    have hd : decide (n = n) = true := by simp
    rw [hd]
    go_enter Tryd.func41, Tryd.ntmps41
    go_wp2_with fail
    go_ret
    exact ⟨rfl, rfl⟩
  · have h1 : ((n : Int) == (m : Int)) = false := by simp; omega
    have hd : decide (n = m) = false := by simpa using h
    rw [hd]
    go_enter Tryd.func41, Tryd.ntmps41
    go_wp2_with fail
    go_ret
    exact ⟨rfl, rfl⟩
theorem left_any (s : List UInt8) (b : Bool) (w : World) (hs : s.length = 32) : Calls Tryd.prog 44 #[.agg (sv (s, b)).toArray] w fun e w' => e = .returned (.bool b) ∧ Below w.heap.size w w' := by
  have hc : (w.alloc (.cells (sv (s, b)).toArray 65)).cell? ⟨w.heap.size, 32, none⟩ = some (.bool b) := (BlkIs.new w _ _).get (by simp [sv, bv_length, hs])
  generalize (sv (s, b)).toArray = X at *
  go_enter Tryd.func44, Tryd.ntmps44
  go_wp2_with fail
  go_ret
  exact ⟨rfl, below1 w _⟩
set_option maxHeartbeats 800000 in
theorem index_any (A : Option Addr) (n c : Nat) (SD : List (List UInt8 × Bool)) (w : World) (hn : SD.length = n) (h9 : n ≤ 100000) (h : Ds w w.heap.size A SD) :
    Calls Tryd.prog 62 #[.slice A n c, .func (.func 44) #[] #[]] w fun e w' => ∃ i : Int, e = .returned (.int .i64 i) ∧ decide (0 ≤ i) = SD.any (·.2) ∧ Below w.heap.size w w' := by
  have HN := Lib.hid hn
  clear hn
  go_enter Tryd.func62, Tryd.ntmps62
  go_wp2_with fail
  go_loopw [8] (fun i wr => ∃ k : Nat, k ≤ n ∧ i = .int .i64 k ∧ Hid ((SD.take k).any (·.2) = false) ∧ Below w.heap.size w wr) (fun i _ => n - (intOf i).toNat)
  case atStart => exact ⟨0, Nat.zero_le _, rfl, Lib.hid (by simp), Below.refl _ _⟩
  case round =>
    obtain ⟨k, hk, rfl, ha, hb⟩ := hrel
    by_cases hlt : k < n
    · obtain ⟨g, o, rfl, hgB, hr⟩ := h.at_ (k := k) (by rw [HN.out]; exact hlt)
      have hx := Ds.getD h.1 (k := k) (by rw [HN.out]; exact hlt)
      obtain ⟨sx, hsx⟩ : ∃ sx, sx = SD.getD k ([], false) := ⟨_, rfl⟩
      rw [← hsx] at hr hx
      have hr' : wr.rangeAt g (o + k * 33) (sv sx) := range_below hr hb hgB
      have HX := Lib.hid hx
      have HT : Hid (SD.take (k + 1) = SD.take k ++ [sx]) := Lib.hid (by
        have hkl : k < SD.length := by rw [HN.out]; exact hlt
        rw [List.take_add_one, List.getElem?_eq_getElem hkl, hsx, List.getD_eq_getElem?_getD, List.getElem?_eq_getElem hkl]; rfl)
      have HD : Hid (SD = SD.take k ++ [sx] ++ SD.drop (k + 1)) := Lib.hid (by rw [← HT.out, List.take_append_drop])
      obtain ⟨s, b⟩ := sx
      dsimp only at hx
      clear hsx hx hr h
      cases b
      · go_wp2_with (first
          | (refine load_want (by rfl) 65 (.tmp 14) rfl g (o + k * 33) rfl (sv (s, false)) _ hr' Tryd.underlying65 rfl (isz56s HX.out) ?_)
          | (refine (left_any s false _ HX.out).mono ?_; rintro e w2 ⟨rfl, hb2⟩)
          | fail)
        go_roundw
        case rel => exact ⟨k + 1, by omega, by go_num, Lib.hid (by rw [HT.out, List.any_append, ha.out]; rfl), hb.trans (hb2.mono hb.size)⟩
        case measure => simp [intOf]; omega
      · go_wp2_with (first
          | (refine load_want (by rfl) 65 (.tmp 14) rfl g (o + k * 33) rfl (sv (s, true)) _ hr' Tryd.underlying65 rfl (isz56s HX.out) ?_)
          | (refine (left_any s true _ HX.out).mono ?_; rintro e w2 ⟨rfl, hb2⟩)
          | fail)
        go_ret
        exact ⟨_, rfl, by rw [HD.out]; simp, hb.trans (hb2.mono hb.size)⟩
    · have hk2 : ¬ (k : Int) < (n : Int) := by omega
      go_wp2_with fail
      go_ret
      exact ⟨_, rfl, by rw [← List.take_of_length_le (l := SD) (i := k) (by rw [HN.out]; omega), ha.out]; rfl, hb⟩
theorem contains_any (A : Option Addr) (n c : Nat) (SD : List (List UInt8 × Bool)) (w : World) (hn : SD.length = n) (h9 : n ≤ 100000) (h : Ds w w.heap.size A SD) :
    Calls Tryd.prog 43 #[.slice A n c, .func (.func 44) #[] #[]] w fun e w' => e = .returned (.bool (SD.any (·.2))) ∧ Below w.heap.size w w' := by
  have HI := Lib.hid (index_any A n c SD w hn h9 h)
  generalize SD.any (·.2) = b at *
  clear hn h
  go_enter Tryd.func43, Tryd.ntmps43
  go_wp2_with fail
  refine HI.out.mono ?_
  rintro e w2 ⟨i, rfl, hi, hb⟩
  cases b
  · have hi' : ¬ 0 ≤ i := by simpa using hi
    go_wp2_with fail
    go_ret
    exact ⟨rfl, hb⟩
  · have hi' : 0 ≤ i := by simpa using hi
    go_wp2_with fail
    go_ret
    exact ⟨rfl, hb⟩
/-- what the loop has taken in: both roots. -/
def gotS (sd : List (List UInt8 × Bool)) (len : Nat) (x0 : List UInt8) (pre : List {i : Nat // i < len}) : List UInt8 × List UInt8 := (pre.map fun x => sd.getD x.1 ([], false)).foldl (fun acc s => bothS s acc) (x0, x0)
theorem gotS_snoc (sd : List (List UInt8 × Bool)) (len : Nat) (x0 : List UInt8) (pre : List {i : Nat // i < len}) (x : {i : Nat // i < len}) : gotS sd len x0 (pre ++ [x]) = bothS (sd.getD x.1 ([], false)) (gotS sd len x0 pre) := by simp [gotS]
theorem bothS_length (s : List UInt8 × Bool) {a : List UInt8 × List UInt8} (h : a.1.length = 32 ∧ a.2.length = 32) : (bothS s a).1.length = 32 ∧ (bothS s a).2.length = 32 := by
  unfold bothS
  split
  · exact ⟨nodeS_length _ _, nodeS_length _ _⟩
  · exact ⟨h.1, nodeS_length _ _⟩
theorem foldS_length : ∀ (l : List (List UInt8 × Bool)) (a : List UInt8 × List UInt8), a.1.length = 32 ∧ a.2.length = 32 → (l.foldl (fun acc s => bothS s acc) a).1.length = 32 ∧ (l.foldl (fun acc s => bothS s acc) a).2.length = 32
  | [], _, h => h
  | s :: l, a, h => foldS_length l (bothS s a) (bothS_length s h)
theorem gotS_length (sd : List (List UInt8 × Bool)) (len : Nat) {x0 : List UInt8} (h : x0.length = 32) (pre : List {i : Nat // i < len}) : (gotS sd len x0 pre).1.length = 32 ∧ (gotS sd len x0 pre).2.length = 32 := foldS_length _ _ ⟨h, h⟩
theorem gotS_all {len : Nat} {sd : List (List UInt8 × Bool)} (h : sd.length = len) (x0 : List UInt8) : gotS sd len x0 (downs len) = sd.foldr bothS (x0, x0) := by
  unfold gotS
  rw [downs_sides h, List.foldl_reverse]
def GrI (N Sa Sb B0 : Nat) (old root : List UInt8) (sd : List (List UInt8 × Bool)) (len : Nat) (x0 : List UInt8) (W0 : World) (pre : List {i : Nat // i < len}) (W : World) : Prop :=
  (BlkIs W N 22 (bv old).toArray ∧ BlkIs W (N + 1) 22 (bv root).toArray) ∧ BlkIs W Sa 22 (bv (gotS sd len x0 pre).1).toArray ∧ BlkIs W Sb 22 (bv (gotS sd len x0 pre).2).toArray ∧ Below N W0 W ∧ B0 ≤ W.heap.size
theorem grI_own {N B Sa Sb B0 : Nat} {old root : List UInt8} {sd : List (List UInt8 × Bool)} {len : Nat} {x0 : List UInt8} {W0 : World} (hB : N ≤ B) : OwnFrom B (GrI N Sa Sb B0 old root sd len x0 W0) := fun s _ _ row ⟨⟨h1, h1'⟩, h2, h2', h3, h4⟩ hg hr =>
  ⟨⟨blk_grown h1 hg (fun r e => (hr r e).2), blk_grown h1' hg (fun r e => (hr r e).2)⟩, blk_grown h2 hg (fun r e => (hr r e).2), blk_grown h2' hg (fun r e => (hr r e).2), h3.grown hg (Nat.le_of_lt h1.lt) (fun k hk => by have := (hr k hk).1; omega), Nat.le_trans h4 hg.size⟩
theorem gr_done {N Sa Sb B0 len : Nat} {old root x0 a1 a2 : List UInt8} {sd : List (List UInt8 × Bool)} {W0 W w6 w7 : World} {pre : List {i : Nat // i < len}} (j1 : BlkIs W N 22 (bv old).toArray) (j1' : BlkIs W (N + 1) 22 (bv root).toArray) (j3 : Below N W0 W) (j4 : B0 ≤ W.heap.size) (hS : Sa < B0 ∧ Sb < B0) (hN : N + 1 < Sa ∧ N + 1 < Sb)
    (hb6 : Below W.heap.size W w6) (ht7 : Tn (fun i => i = Sa ∨ i = Sb) w6 w7) (ha : BlkIs w7 Sa 22 (bv a1).toArray) (hb : BlkIs w7 Sb 22 (bv a2).toArray) (hg : gotS sd len x0 pre = (a1, a2)) :
    KeepsFrom B0 W w7 ∧ Kq B0 (fun i => i = Sa ∨ i = Sb) W w7 ∧ GrI N Sa Sb B0 old root sd len x0 W0 pre w7 := by
  have h6 := hb6.size
  have hlt := j1.lt
  have hlt' := j1'.lt
  refine ⟨(keeps_below hb6).trans (keeps_of_tn ht7 (fun i hi => by omega)), (Kq.of_below hb6 j4).trans (Kq.of_tn ht7 (by omega)), ⟨BlkIs.tn ((hb6.block _ hlt).trans j1) ht7 (by omega), BlkIs.tn ((hb6.block _ hlt').trans j1') ht7 (by omega)⟩, by rw [hg]; exact ha, by rw [hg]; exact hb, (j3.trans (hb6.mono (by omega))).trans (ht7.below (by omega) (fun i hi h => by omega)), Nat.le_trans j4 (Nat.le_trans h6 ht7.size)⟩
theorem tn_or {a b : Nat} {X Y Z : World} (h : Tn (fun i => i = a) X Y) (k : Tn (fun i => i = b) Y Z) : Tn (fun i => i = a ∨ i = b) X Z := (h.mono fun _ _ e => .inl e).trans (k.mono fun _ _ e => .inr e)
def GrAF (N Sx Sa Sb Bs : Nat) (old root x0 : List UInt8) (A Av A2 : Option Addr) (p c m n sl cv c2 : Nat) (sd : List (List UInt8 × Bool)) (x : {i : Nat // i < sl}) (a' : Act) (W : World) : Prop := ∃ Bx, Sa < Bx ∧ Sb < Bx ∧ BlkIs W Bx 65 (sv (sd.getD x.1 ([], false))).toArray ∧
  a' = { tmps := #[.agg (bv old).toArray, .int .i64 (m : Int), .agg (bv root).toArray, .int .i64 (n : Int), .slice A p c, .pointer (some ⟨N, 0, none⟩), undef, .pointer (some ⟨N + 1, 0, none⟩), undef, undef, .bool false, .func (.func 41) #[] #[], .slice Av sl cv, .slice A2 0 c2, .bool true, .pointer (some ⟨Sx, 0, none⟩), .pointer (some ⟨Sa, 0, none⟩), .pointer (some ⟨Sb, 0, none⟩), undef, .pointer (some ⟨Bx, 0, none⟩), .int .i64 (m : Int), .bool false, .bool false, .int .i64 (m : Int), .int .i64 (n : Int), .bool false, .bool false, .tuple #[.slice Av sl cv, .slice A2 0 c2, .bool true], .int .i64 (n : Int), .int .i64 (m : Int), .slice A p c, .func (.func 41) #[] #[], .tuple #[.slice Av sl cv, .slice A2 0 c2, .bool true], .slice Av sl cv, .slice A2 0 c2, .bool true, .bool true, .bool false, .agg (bv old).toArray, .slice Av sl cv, .bool false, undef, undef, undef, undef, undef, undef, undef, undef, undef, undef, undef, undef, undef, undef, .slice A2 0 c2, .int .i64 0, .bool false, .agg (bv x0).toArray, .agg (bv x0).toArray, .slice Av sl cv, .func (.func 63) #[] #[.pointer (some ⟨Bs, 0, none⟩)], .int .i64 (x.1 : Int), .agg (sv (sd.getD x.1 ([], false))).toArray, undef, undef, undef, undef, undef, undef, undef, undef, undef, undef, undef, undef, undef, undef, undef, undef, undef, undef, undef, undef, undef, undef], defers := [] }
theorem grAF_own {B : Nat} {N Sx Sa Sb Bs : Nat} {old root x0 : List UInt8} {A Av A2 : Option Addr} {p c m n sl cv c2 : Nat} {sd : List (List UInt8 × Bool)} (x : {i : Nat // i < sl}) (a' : Act) : OwnFrom B (fun (_ : Unit) W => GrAF N Sx Sa Sb Bs old root x0 A Av A2 p c m n sl cv c2 sd x a' W) := fun _ _ _ _ ⟨Bx, h1, h1', h2, h3⟩ hg hr =>
  ⟨Bx, h1, h1', blk_grown h2 hg (fun r e => (hr r e).2), h3⟩
def GrAT (N Sx Sa Sb Bs : Nat) (old root x0 : List UInt8) (A Av : Option Addr) (p c m n sl cv c2 g2 o2 : Nat) (sd : List (List UInt8 × Bool)) (x : {i : Nat // i < sl}) (a' : Act) (W : World) : Prop := ∃ Bx, Sa < Bx ∧ Sb < Bx ∧ BlkIs W Bx 65 (sv (sd.getD x.1 ([], false))).toArray ∧
  a' = { tmps := #[.agg (bv old).toArray, .int .i64 (m : Int), .agg (bv root).toArray, .int .i64 (n : Int), .slice A p c, .pointer (some ⟨N, 0, none⟩), undef, .pointer (some ⟨N + 1, 0, none⟩), undef, undef, .bool false, .func (.func 41) #[] #[], .slice Av sl cv, .slice (some ⟨g2, o2, none⟩) 0 c2, .bool true, .pointer (some ⟨Sx, 0, none⟩), .pointer (some ⟨Sa, 0, none⟩), .pointer (some ⟨Sb, 0, none⟩), undef, .pointer (some ⟨Bx, 0, none⟩), .int .i64 (m : Int), .bool false, .bool false, .int .i64 (m : Int), .int .i64 (n : Int), .bool false, .bool false, .tuple #[.slice Av sl cv, .slice (some ⟨g2, o2, none⟩) 1 c2, .bool true], .int .i64 (n : Int), .int .i64 (m : Int), .slice A p c, .func (.func 41) #[] #[], .tuple #[.slice Av sl cv, .slice (some ⟨g2, o2, none⟩) 1 c2, .bool true], .slice Av sl cv, .slice (some ⟨g2, o2, none⟩) 1 c2, .bool true, .bool true, .bool false, .agg (bv old).toArray, .slice Av sl cv, .bool true, .slice (some ⟨g2, o2, none⟩) 1 c2, .int .i64 1, .bool false, .slice (some ⟨g2, o2, none⟩) 1 c2, .slice (some ⟨g2, o2, none⟩) 1 c2, .int .i64 1, .int .i64 0, .pointer (some ⟨g2, o2, none⟩), .agg (bv x0).toArray, .slice (some ⟨g2, o2, none⟩) 1 c2, .slice (some ⟨g2, o2, none⟩) 1 c2, .int .i64 1, .int .i64 0, .slice (some ⟨g2, o2, none⟩) 0 c2, .slice (some ⟨g2, o2, none⟩) 0 c2, .int .i64 0, .bool false, .agg (bv x0).toArray, .agg (bv x0).toArray, .slice Av sl cv, .func (.func 63) #[] #[.pointer (some ⟨Bs, 0, none⟩)], .int .i64 (x.1 : Int), .agg (sv (sd.getD x.1 ([], false))).toArray, undef, undef, undef, undef, undef, undef, undef, undef, undef, undef, undef, undef, undef, undef, undef, undef, undef, undef, undef, undef, undef, undef], defers := [] }
theorem grAT_own {B : Nat} {N Sx Sa Sb Bs : Nat} {old root x0 : List UInt8} {A Av : Option Addr} {p c m n sl cv c2 g2 o2 : Nat} {sd : List (List UInt8 × Bool)} (x : {i : Nat // i < sl}) (a' : Act) : OwnFrom B (fun (_ : Unit) W => GrAT N Sx Sa Sb Bs old root x0 A Av p c m n sl cv c2 g2 o2 sd x a' W) := fun _ _ _ _ ⟨Bx, h1, h1', h2, h3⟩ hg hr =>
  ⟨Bx, h1, h1', blk_grown h2 hg (fun r e => (hr r e).2), h3⟩
set_option maxRecDepth 100000 in
set_option maxHeartbeats 6400000 in
theorem grown_f (old root : List UInt8) (A : Option Addr) (p c m n : Nat) (L : List (List UInt8)) (w : World) (ho : old.length = 32) (hr : root.length = 32) (hp : L.length = p) (h9 : p ≤ 100000) (hc : p ≤ c) (hm : c ≤ maxLen) (h : Hs w w.heap.size A L) (h1m : 1 ≤ m) (hmn : m ≤ n) (h63 : n ≤ 9223372036854775807) (hg : Glob w)
    (hw : (apartR (fun n m => decide (n = m)) n m L.reverse).1.any (·.2) = false) :
    CallsIn Fence.wide 3 Tryd.prog 15 #[.agg (bv old).toArray, .int .i64 m, .agg (bv root).toArray, .int .i64 n, .slice A p c] w fun e w' => e = .returned (.bool ((bothR m n true old L.reverse).2.2 && ((bothR m n true old L.reverse).1 == old) && ((bothR m n true old L.reverse).2.1 == root))) ∧ Below w.heap.size w w' := by
  have h1 : 1 ≤ 3 := by omega
  have GS := Lib.hid hg.size
  have i1 : ¬ (m : Int) < 1 := by omega
  have i2 : ¬ (n : Int) < (m : Int) := by omega
  have HAP : Hid (∀ W, Below w.heap.size w W → Calls Tryd.prog 42 #[.int .i64 n, .int .i64 m, .slice A p c, .func (.func 41) #[] #[]] W fun e w' => ∃ v1 A2 len2 c2 L2, e = .returned (.tuple #[v1, .slice A2 len2 c2, .bool (apartR (fun n m => decide (n = m)) n m L.reverse).2.2]) ∧
      OwnD w' W.heap.size v1 (apartR (fun n m => decide (n = m)) n m L.reverse).1 ∧ Hs w' w'.heap.size A2 L2 ∧ L2.length = len2 ∧ len2 ≤ c2 ∧ c2 ≤ maxLen ∧ L2.reverse = (apartR (fun n m => decide (n = m)) n m L.reverse).2.1 ∧ Below W.heap.size W w') := Lib.hid fun W hb =>
    apart_calls 41 (fun n m => decide (n = m)) (enters_of Tryd.func41 (by kernel_rfl) rfl) (fun n m w _ _ _ => full_any n m w) (fun n m a b hf => by
      have h2 : n ≠ m := by simpa using hf
      omega) A p c n m L W hp h9 hc hm ((h.below hb).more hb.size) (by omega) (by omega) h63
  obtain ⟨q1, q2⟩ := apart_both old L.reverse m n true h1m hmn
  have hsd := apartR_len (fun n m => decide (n = m)) L.reverse n m
  rw [List.length_reverse, hp] at hsd
  obtain ⟨bl1, bl2⟩ := bothR_length ho L.reverse m n true (fun x hx => h.1 x (by simpa using hx))
  generalize apartR (fun n m => decide (n = m)) n m L.reverse = ap at *
  obtain ⟨sd, rest, ok⟩ := ap
  dsimp only at q1 q2 HAP hsd hw
  rw [hw] at q1 q2
  generalize bothR m n true old L.reverse = bt at *
  obtain ⟨ba, bb, bo⟩ := bt
  dsimp only at q1 q2 bl1 bl2 ⊢
  simp only [Bool.not_true, Bool.false_or] at q1 q2
  have HW := Lib.hid hw
  clear hw
  refine callsIn_of_wp_marks Tryd.func15 rfl trivial ?_ rfl
  simp only [Tryd.ntmps15, List.size_toArray, List.length_cons, List.length_nil, Nat.reduceAdd, Nat.reduceSub, Array.replicate_succ, Array.replicate_zero, List.push_toArray, List.append_toArray, List.nil_append, List.cons_append]
  gi_wp2_with fail
  refine ⟨trivial, callsIn_wide.2 ((HAP.out _ (below2 w _ _)).mono ?_)⟩
  rintro e w2 ⟨v1, A2, len2, c2, L2, rfl, hov, hs2, hl2, hc2, hm2, hrev, hb2⟩
  have hsz2 := hb2.size
  have hbw : Below w.heap.size w w2 := (below2 w _ _).trans (hb2.mono (by simp; omega))
  have b0 : BlkIs w2 w.heap.size 22 (bv old).toArray := (hb2.block _ (by simp; omega)).trans (two_blocks w _ _).1
  have b1 : BlkIs w2 (w.heap.size + 1) 22 (bv root).toArray := (hb2.block _ (by simp)).trans (two_blocks w _ _).2
  obtain ⟨Av, cv, ev, hv1, hv2⟩ := hov.slice
  obtain ⟨sl, hsl⟩ : ∃ sl, sl = sd.length := ⟨_, rfl⟩
  rw [← hsl] at ev hsd
  subst ev
  have HSL := Lib.hid hsl
  have HOV := Lib.hid (hov.more (by simp; omega : w.heap.size ≤ _))
  have HB0 := Lib.hid b0
  have HB1 := Lib.hid b1
  have HBW := Lib.hid hbw
  have HBA := Lib.hid bl1
  have HBB := Lib.hid bl2
  have HQ1 := Lib.hid q1
  have HQ2 := Lib.hid q2
  have HS2 := Lib.hid hs2
  have HL2 := Lib.hid hl2
  have HREV := Lib.hid hrev
  clear hsl hov b0 b1 hbw q1 q2 bl1 bl2 hs2 hb2 HAP hl2 hrev
  have HLL := Lib.hid ho
  have HRR := Lib.hid hr
  have HZL : Hid ((bv (List.replicate 32 0)).toArray.size = (bv old).toArray.size) := Lib.hid (by rw [List.size_toArray, List.size_toArray, bv_length, bv_length, ho]; rfl)
  clear ho hr
  cases ok
  · have hub : Hid ((bo && (ba == old) && (bb == root)) = false) := Lib.hid (by rw [HQ1.out]; rfl)
    gi_wp2_with fail
    exact ⟨_, results_tmp rfl _ _ _, by rw [hub.out]; rfl, HBW.out⟩
  · have CT : Hid (∀ W, Below w2.heap.size w2 W → Calls Tryd.prog 43 #[.slice Av sl cv, .func (.func 44) #[] #[]] W fun e w' => e = .returned (.bool false) ∧ Below W.heap.size W w') := Lib.hid fun W hb => by
      have := contains_any Av sl cv sd W HSL.out.symm (by omega) ((HOV.out.ds.below hb).more hb.size)
      rwa [HW.out] at this
    have hb0r := BlkIs.sum HB0.out
    by_cases h0 : len2 = 0
    · subst h0
      obtain ⟨x0, hx0⟩ : ∃ x0, x0 = old := ⟨_, rfl⟩
      have hrest : Hid (bo = true ∧ (ba, bb) = sd.foldr bothS (x0, x0)) := Lib.hid (by
        have e : rest = [] := by rw [← HREV.out, List.eq_nil_of_length_eq_zero HL2.out]; rfl
        have e1 : bo = true := by rw [HQ1.out, e]; rfl
        refine ⟨e1, ?_⟩
        rw [HQ2.out e1, e, hx0]
        rfl)
      gi_wp2_with (first
        | (refine lin_load_mid (Wide.wide _ _) rfl 22 (.tmp 5) rfl w.heap.size 0 rfl (bv old) _ hb0r Tryd.underlying22 rfl (isz26s HLL.out) ?_)
        | (refine lin_store (Wide.wide _ _) (.tmp 15) (.tmp 38) 22 w2.heap.size 22 _ (bv old).toArray (BlkIs.new w2 _ _) rfl rfl rfl rfl rfl (isz26a HLL.out) HZL.out (bv_all _) ?_; intro w3 hb3 ht3; have k3 : Below w2.heap.size w2 w3 := (below1 w2 _).trans (ht3.below (by simp) (fun i hi h => by omega)); clear ht3 hb0r)
        | fail)
      refine ⟨trivial, callsIn_wide.2 ((CT.out _ k3).mono ?_)⟩
      rintro e w4 ⟨rfl, hb4⟩
      have k4 : Below w2.heap.size w2 w4 := k3.trans (hb4.mono k3.size)
      have hX4 : BlkIs w4 w2.heap.size 22 (bv old).toArray := (hb4.block _ hb3.lt).trans hb3
      clear hb4 hb3 k3
      rw [← hx0] at hX4
      have HX0 : Hid (x0.length = 32) := Lib.hid (by rw [hx0]; exact HLL.out)
      clear hx0
      gi_wp2_with fail
      have hlt4 := hX4.lt
      have hR0 : BlkIs w4 w.heap.size 22 (bv old).toArray := (k4.block _ HB0.out.lt).trans HB0.out
      have hR1 : BlkIs w4 (w.heap.size + 1) 22 (bv root).toArray := (k4.block _ HB1.out.lt).trans HB1.out
      have HR0 := Lib.hid hR0
      have HR1 := Lib.hid hR1
      have hltR := HB1.out.lt
      have HZX : Hid ((bv (List.replicate 32 0)).toArray.size = (bv x0).toArray.size) := Lib.hid (by rw [List.size_toArray, List.size_toArray, bv_length, bv_length, HX0.out]; rfl)
      have hx4 := BlkIs.sum hX4
      clear hR0 hR1
      have d4 : w4.drew.rangeAt w2.heap.size 0 (bv x0) := BlkIs.sum ((Alk.drew w4).blk hX4)
      have kd : Below w4.heap.size w4 w4.drew := (Below.refl _ w4).drew
      refine regionIn_held_drew (S := (fun W => W.rangeAt w2.heap.size 0 (bv x0))) (Wide.wide _ _) (by kernel_rfl) (by kernel_rfl) (d4) (fun hHeld => ?_)
      refine wpAnyH_take (i := 0) (v := _) rfl (by kernel_rfl) (by kernel_rfl) (by kernel_rfl) (fun _ _ _ h => h) (yieldsIf_load_mid (by rfl) 22 (.tmp 15) rfl w2.heap.size 0 rfl (bv x0) _ (fun w h => h) Tryd.underlying22 rfl (isz26s HX0.out)) hHeld ?_
      try simp only [Act.put, List.getElem_toArray, List.getElem_cons_zero, List.setIfInBounds_toArray, List.set_cons_zero, List.set_cons_succ]
      refine wpAnyH_take (i := 1) (v := _) rfl (by kernel_rfl) (by kernel_rfl) (by kernel_rfl) (fun _ _ _ h => h) (yieldsIf_load_mid (by rfl) 22 (.tmp 15) rfl w2.heap.size 0 rfl (bv x0) _ (fun w h => h) Tryd.underlying22 rfl (isz26s HX0.out)) hHeld ?_
      try simp only [Act.put, List.getElem_toArray, List.getElem_cons_zero, List.getElem_cons_succ, List.setIfInBounds_toArray, List.set_cons_zero, List.set_cons_succ]
      refine wpAnyH_ready (rs := [2, 3]) (by kernel_rfl) (by simp) ?_
      refine AllReadyH.cons rfl (fun K hK => ?_) (AllReadyH.cons rfl (fun K hK => ?_) AllReadyH.nil)
      go_simp
      refine hK.out _ _ ?_ (fun hHeld => ?_)
      · exact range_below hHeld (below1 _ _) (range_lt hHeld (by rw [HX0.out]; omega))
      clear hK K
      try simp only [Act.put, List.getElem_toArray, List.getElem_cons_zero, List.getElem_cons_succ, List.setIfInBounds_toArray, List.set_cons_zero, List.set_cons_succ]
      refine wpAnyH_ready (rs := [3]) (by kernel_rfl) (by simp) ?_
      refine AllReadyH.cons rfl (fun K hK => ?_) AllReadyH.nil
      go_simp
      refine hK.out _ _ ?_ (fun hHeld => ?_)
      · exact range_below hHeld (below1 _ _) (range_lt hHeld (by rw [HX0.out]; omega))
      clear hK K
      try simp only [Act.put, List.getElem_toArray, List.getElem_cons_zero, List.getElem_cons_succ, List.setIfInBounds_toArray, List.set_cons_zero, List.set_cons_succ]
      have tb2 := two_blocks w4.drew (.cells (bv (List.replicate 32 0)).toArray 22) (.cells (bv (List.replicate 32 0)).toArray 22)
      have kk2 := ((Below.refl _ w4).drew.alloc (Nat.le_refl _) (.cells (bv (List.replicate 32 0)).toArray 22)).alloc (by simp) (.cells (bv (List.replicate 32 0)).toArray 22)
      refine wpAnyH_ready (rs := [4]) (by kernel_rfl) (by simp) ?_
      refine AllReadyH.cons rfl (fun K hK => ?_) AllReadyH.nil
      refine step_store (.tmp 16) (.tmp 58) 22 w4.heap.size 22 _ (bv x0).toArray tb2.1 rfl rfl rfl rfl rfl (isz26a HX0.out) HZX.out (bv_all _) ?_; intro w6 hb6 ht6
      refine hK.out _ _ ?_ (fun hHeld => ?_)
      · exact range_tn hHeld ht6 (by omega)
      clear hK K
      try simp only [Act.put, List.getElem_toArray, List.getElem_cons_zero, List.getElem_cons_succ, List.setIfInBounds_toArray, List.set_cons_zero, List.set_cons_succ]
      refine wpAnyH_ready (rs := [5]) (by kernel_rfl) (by simp) ?_
      refine AllReadyH.cons rfl (fun K hK => ?_) AllReadyH.nil
      refine step_store (.tmp 17) (.tmp 59) 22 (w4.heap.size + 1) 22 _ (bv x0).toArray (BlkIs.tn tb2.2 ht6 (by show ¬ (w4.heap.size + 1 = w4.heap.size); omega)) rfl rfl rfl rfl rfl (isz26a HX0.out) HZX.out (bv_all _) ?_; intro w7 hb7 ht7
      refine hK.out _ _ ?_ (fun hHeld => ?_)
      · exact range_tn hHeld ht7 (by omega)
      clear hK K
      try simp only [Act.put, List.getElem_toArray, List.getElem_cons_zero, List.getElem_cons_succ, List.setIfInBounds_toArray, List.set_cons_zero, List.set_cons_succ]
      refine wpAnyH_done (by kernel_rfl) (NormalAt.mk ?_) _
      have k7 : Below w4.heap.size w4 w7 := two_stores ht6 ht7 kk2 (fun i hi h => by omega) (fun i hi h => by omega)
      have hA : BlkIs w7 w4.heap.size 22 (bv x0).toArray := BlkIs.tn hb6 ht7 (by omega)
      have hB : BlkIs w7 (w4.heap.size + 1) 22 (bv x0).toArray := hb7
      obtain ⟨Sb, hSb⟩ : ∃ g, g = w4.heap.size + 1 := ⟨_, rfl⟩
      rw [← hSb] at hB ⊢
      obtain ⟨Sa, hSa⟩ : ∃ g, g = w4.heap.size := ⟨_, rfl⟩
      rw [← hSa] at hA ⊢
      have hges : w4.heap.size ≤ Sa ∧ w4.heap.size ≤ Sb ∧ Sa ≠ Sb := by omega
      clear hSa hSb ht6 ht7 hb6 hb7 tb2 kk2
      rotate_left
      go_simp
      refine hK.out _ _ ?_ (fun hHeld => ?_)
      · exact range_below hHeld (below1 _ _) (range_lt hHeld (by rw [HX0.out]; omega))
      clear hK K
      try simp only [Act.put, List.getElem_toArray, List.getElem_cons_zero, List.getElem_cons_succ, List.setIfInBounds_toArray, List.set_cons_zero, List.set_cons_succ]
      refine wpAnyH_ready (rs := [2]) (by kernel_rfl) (by simp) ?_
      refine AllReadyH.cons rfl (fun K hK => ?_) AllReadyH.nil
      go_simp
      refine hK.out _ _ ?_ (fun hHeld => ?_)
      · exact range_below hHeld (below1 _ _) (range_lt hHeld (by rw [HX0.out]; omega))
      clear hK K
      try simp only [Act.put, List.getElem_toArray, List.getElem_cons_zero, List.getElem_cons_succ, List.setIfInBounds_toArray, List.set_cons_zero, List.set_cons_succ]
      have tb2 := two_blocks w4.drew (.cells (bv (List.replicate 32 0)).toArray 22) (.cells (bv (List.replicate 32 0)).toArray 22)
      have kk2 := ((Below.refl _ w4).drew.alloc (Nat.le_refl _) (.cells (bv (List.replicate 32 0)).toArray 22)).alloc (by simp) (.cells (bv (List.replicate 32 0)).toArray 22)
      refine wpAnyH_ready (rs := [4]) (by kernel_rfl) (by simp) ?_
      refine AllReadyH.cons rfl (fun K hK => ?_) AllReadyH.nil
      refine step_store (.tmp 16) (.tmp 58) 22 (w4.heap.size + 1) 22 _ (bv x0).toArray tb2.2 rfl rfl rfl rfl rfl (isz26a HX0.out) HZX.out (bv_all _) ?_; intro w6 hb6 ht6
      refine hK.out _ _ ?_ (fun hHeld => ?_)
      · exact range_tn hHeld ht6 (by omega)
      clear hK K
      try simp only [Act.put, List.getElem_toArray, List.getElem_cons_zero, List.getElem_cons_succ, List.setIfInBounds_toArray, List.set_cons_zero, List.set_cons_succ]
      refine wpAnyH_ready (rs := [5]) (by kernel_rfl) (by simp) ?_
      refine AllReadyH.cons rfl (fun K hK => ?_) AllReadyH.nil
      refine step_store (.tmp 17) (.tmp 59) 22 w4.heap.size 22 _ (bv x0).toArray (BlkIs.tn tb2.1 ht6 (by show ¬ (w4.heap.size = w4.heap.size + 1); omega)) rfl rfl rfl rfl rfl (isz26a HX0.out) HZX.out (bv_all _) ?_; intro w7 hb7 ht7
      refine hK.out _ _ ?_ (fun hHeld => ?_)
      · exact range_tn hHeld ht7 (by omega)
      clear hK K
      try simp only [Act.put, List.getElem_toArray, List.getElem_cons_zero, List.getElem_cons_succ, List.setIfInBounds_toArray, List.set_cons_zero, List.set_cons_succ]
      refine wpAnyH_done (by kernel_rfl) (NormalAt.mk ?_) _
      have k7 : Below w4.heap.size w4 w7 := two_stores ht6 ht7 kk2 (fun i hi h => by omega) (fun i hi h => by omega)
      have hA : BlkIs w7 (w4.heap.size + 1) 22 (bv x0).toArray := BlkIs.tn hb6 ht7 (by omega)
      have hB : BlkIs w7 w4.heap.size 22 (bv x0).toArray := hb7
      obtain ⟨Sa, hSa⟩ : ∃ g, g = w4.heap.size + 1 := ⟨_, rfl⟩
      rw [← hSa] at hA ⊢
      obtain ⟨Sb, hSb⟩ : ∃ g, g = w4.heap.size := ⟨_, rfl⟩
      rw [← hSb] at hB ⊢
      have hges : w4.heap.size ≤ Sa ∧ w4.heap.size ≤ Sb ∧ Sa ≠ Sb := by omega
      clear hSa hSb ht6 ht7 hb6 hb7 tb2 kk2
      rotate_left
      all_goals
        have hk4 := k4.size
        have hkw := HBW.out.size
        gi_wp2_with fail
        refine ⟨trivial, callsIn_wide.2 ((back_D _ _ _ _).mono ?_)⟩
        rintro e w8 ⟨rfl, e8⟩
        have k8 : Below w7.heap.size w7 w8 := e8 ▸ below1 w7 _
        have b8 : BlkIs w8 w7.heap.size 60 #[.slice Av sl cv] := e8 ▸ BlkIs.new w7 _ _
        have hA8 : BlkIs w8 Sa 22 (bv x0).toArray := (k8.block _ hA.lt).trans hA
        have hB8 : BlkIs w8 Sb 22 (bv x0).toArray := (k8.block _ hB.lt).trans hB
        have hltA := hA.lt
        have hltB := hB.lt
        have hlt8 := b8.lt
        have k78 : Below w4.heap.size w4 w8 := k7.trans (k8.mono k7.size)
        have k28 : Below w2.heap.size w2 w8 := k4.trans (k78.mono hk4)
        have hR80 : BlkIs w8 w.heap.size 22 (bv old).toArray := (k28.block _ HB0.out.lt).trans HB0.out
        have hR81 : BlkIs w8 (w.heap.size + 1) 22 (bv root).toArray := (k28.block _ HB1.out.lt).trans HB1.out
        have hW8 : Below w.heap.size w w8 := HBW.out.trans (k28.mono HBW.out.size)
        have hD8 : Ds w8 w2.heap.size Av sd := HOV.out.ds.below k28
        have hsdl : sd.length = sl := HSL.out.symm
        have c8 := b8.cell 0
        have HDS := Lib.hid hD8.1
        clear e8 k8 hA hB k7 hx4 d4 kd b8
        gi_wp2_with fail
        refine wpIn_rangeFunc_ownH rfl h1 (gf := 63) (lb := #[.pointer (some ⟨w7.heap.size, 0, none⟩)]) rfl trivial (enters_of Tryd.func63 (by kernel_rfl) rfl)
          (back_stops_D w7.heap.size w8.heap.size w2.heap.size sl cv (fun i => i = Sa ∨ i = Sb) Av sd hsdl (by omega) w8 (by omega) (by omega) (Nat.le_refl _) (by omega) (fun i hi h => by omega) c8 hD8) Kq.trans (Kq.book (Nat.le_refl _)) (Below.refl _ _) (fun _ => rfl)
          (GrI w.heap.size Sa Sb w8.heap.size old root sd sl x0 w) (fun _ _ _ => False) (grI_own (by omega)) (fun _ _ _ _ _ hs _ _ => hs) ⟨⟨hR80, hR81⟩, hA8, hB8, hW8, Nat.le_refl _⟩
          (GrAF w.heap.size w2.heap.size Sa Sb w7.heap.size old root x0 A Av A2 p c m n sl cv c2 sd) grAF_own ?assign ?body ?done ?stop
        case assign =>
          intro l pre x W K hi hK
          have hx32 := Ds.getD HDS.out (k := x.1) (by rw [hsdl]; exact x.2)
          dsimp only [encD]
          obtain ⟨sx, hsx⟩ : ∃ sx, sx = sd.getD x.1 ([], false) := ⟨_, rfl⟩
          rw [← hsx] at hx32 ⊢
          have hZ : (sv (List.replicate 32 0, false)).toArray.size = (sv sx).toArray.size := by rw [List.size_toArray, List.size_toArray, sv_length hx32]; rfl
          have HSX := Lib.hid hsx
          have HX := Lib.hid hx32
          have HZ := Lib.hid hZ
          clear hsx hx32 hZ
          gi_wp2_with (first
            | (refine lin_store (Wide.round _ _ _) (.tmp 19) (.tmp 63) 65 W.heap.size 65 _ (sv sx).toArray (BlkIs.new W _ _) rfl rfl rfl rfl rfl (isz56a HX.out) HZ.out (sv_all _) ?_; intro w9 hb9 ht9)
            | fail)
          have hb : Below W.heap.size W w9 := (below1 W _).trans (ht9.below (by simp) (fun i hi h => by omega))
          obtain ⟨⟨j1, j1'⟩, j2, j2', j3, j4⟩ := hi
          have hlt := j2.lt
          have hlt' := j2'.lt
          exact hK _ _ (keeps_below hb) (Kq.of_below hb j4) ⟨⟨(hb.block _ j1.lt).trans j1, (hb.block _ j1'.lt).trans j1'⟩, (hb.block _ j2.lt).trans j2, (hb.block _ j2'.lt).trans j2', j3.trans (hb.mono (by have := j1.lt; omega)), Nat.le_trans j4 hb.size⟩ ⟨W.heap.size, hlt, hlt', by rw [← HSX.out]; exact hb9, by rw [← HSX.out]⟩
        case body =>
          rintro l pre x a' W _ ⟨r, hr⟩ ⟨⟨j1, j1'⟩, j2, j2', j3, j4⟩ ⟨Bx, hBx, hBx', bX, rfl⟩ hlt
          have hx32 := Ds.getD HDS.out (k := x.1) (by rw [hsdl]; exact x.2)
          have hsn := gotS_snoc sd sl x0 pre x
          have hacc := gotS_length sd sl HX0.out pre
          generalize sd.getD x.1 ([], false) = sx at *
          obtain ⟨s, b⟩ := sx
          dsimp only at hx32
          generalize gotS sd sl x0 pre = acc at *
          obtain ⟨a1, a2⟩ := acc
          dsimp only at hacc j2 j2'
          have HSN := Lib.hid hsn
          have HX := Lib.hid hx32
          have HA1 := Lib.hid hacc.1
          have HA2 := Lib.hid hacc.2
          have cb : W.cell? ⟨Bx, 32, none⟩ = some (.bool b) := bX.get (by simp [sv, bv_length, hx32])
          have rs : W.rangeAt Bx 0 (bv s) := range_sub (a := []) (n := 0) (c := [.bool b]) (by have := bX.rng; simpa [sv] using this) rfl
          have ra := BlkIs.sum j2
          have rb := BlkIs.sum j2'
          have hlx := bX.lt
          have hlA := j2.lt
          have hlB := j2'.lt
          have HGL : Hid (∀ W', Below W.heap.size W W' → Glob W') := Lib.hid fun W' hb => hg.below (j3.trans (hb.mono (by have := j1.lt; omega))) GS.out
          have J1 := Lib.hid j1
          have J1' := Lib.hid j1'
          have J2 := Lib.hid j2
          have J2' := Lib.hid j2'
          have J3 := Lib.hid j3
          clear hsn hx32 hacc bX j1 j1' j3
          cases b
          · have HN := Lib.hid (nodeS_length a2 s)
            gi_wp2_with (first
              | (refine lin_load_mid (Wide.round _ _ _) rfl 22 (.tmp 17) rfl Sb 0 rfl (bv a2) _ rb Tryd.underlying22 rfl (isz26s HA2.out) ?_)
              | (refine lin_load_mid (Wide.round _ _ _) rfl 22 (.tmp 75) rfl Bx 0 rfl (bv s) _ rs Tryd.underlying22 rfl (isz26s HX.out) ?_)
              | (refine ⟨trivial, CallsIn.inRound l (callsIn_wide.2 ((node_any a2 s W HA2.out HX.out (HGL.out W (Below.refl _ _))).mono ?_))⟩; rintro e w9 ⟨rfl, hb9⟩; have y2 : BlkIs w9 Sb 22 (bv a2).toArray := (hb9.block _ J2'.out.lt).trans J2'.out; have y1 : BlkIs w9 Sa 22 (bv a1).toArray := (hb9.block _ J2.out.lt).trans J2.out)
              | (refine lin_store (Wide.round _ _ _) (.tmp 17) (.tmp 77) 22 Sb 22 _ (bv (nodeS a2 s)).toArray y2 rfl rfl rfl rfl rfl (isz26a HN.out) (by rw [List.size_toArray, List.size_toArray, bv_length, bv_length, HA2.out, HN.out]) (bv_all _) ?_; intro wa hba hta)
              | fail)
            exact gr_done J1.out J1'.out J3.out j4 (by omega) (by omega) hb9 (hta.mono (fun _ _ e => .inr e)) (BlkIs.tn y1 hta (by omega)) hba HSN.out
          · have HN1 := Lib.hid (nodeS_length s a1)
            have HN2 := Lib.hid (nodeS_length s a2)
            gi_wp2_with fail
            have k0 : Below W.heap.size W W.drew := (Below.refl _ W).drew
            have KEEP : Hid (∀ W', Below W.heap.size W W' → W'.rangeAt Bx 0 (bv s) ∧ W'.rangeAt Sa 0 (bv a1) ∧ W'.rangeAt Sb 0 (bv a2)) := Lib.hid fun W' hb => ⟨range_below rs hb hlx, range_below ra hb hlA, range_below rb hb hlB⟩
            refine regionIn_key ((fun W' => Below W.heap.size W W')) 8 (Wide.round _ _ _) (by kernel_rfl) (by kernel_rfl) (k0) (fun hHeld => ?_)
            refine wpAnyK_take (i := 0) (v := .pointer (some ⟨Bx, 0, none⟩)) rfl (by kernel_rfl) (by kernel_rfl) (by kernel_rfl) (by kernel_rfl) (fun _ _ _ h => h) (Or.inl ⟨by rfl, fun w hS => by first | (go_simp; done) | (go_simp; with_reducible rfl)⟩) hHeld ?_
            try simp only [Act.put, List.getElem_toArray, List.getElem_cons_zero, List.setIfInBounds_toArray, List.set_cons_zero, List.set_cons_succ]
            refine wpAnyK_take (i := 1) (v := _) rfl (by kernel_rfl) (by kernel_rfl) (by kernel_rfl) (by kernel_rfl) (fun _ _ _ h => h) (yieldsIf_load_mid (by rfl) 22 (.tmp 66) rfl Bx 0 rfl (bv s) _ (fun w h => (KEEP.out w h).1) Tryd.underlying22 rfl (isz26s HX.out)) hHeld ?_
            try simp only [Act.put, List.getElem_toArray, List.getElem_cons_zero, List.getElem_cons_succ, List.setIfInBounds_toArray, List.set_cons_zero, List.set_cons_succ]
            refine wpAnyK_take (i := 2) (v := _) rfl (by kernel_rfl) (by kernel_rfl) (by kernel_rfl) (by kernel_rfl) (fun _ _ _ h => h) (yieldsIf_load_mid (by rfl) 22 (.tmp 16) rfl Sa 0 rfl (bv a1) _ (fun w h => (KEEP.out w h).2.1) Tryd.underlying22 rfl (isz26s HA1.out)) hHeld ?_
            try simp only [Act.put, List.getElem_toArray, List.getElem_cons_zero, List.getElem_cons_succ, List.setIfInBounds_toArray, List.set_cons_zero, List.set_cons_succ]
            refine wpAnyK_take (i := 4) (v := .pointer (some ⟨Bx, 0, none⟩)) rfl (by kernel_rfl) (by kernel_rfl) (by kernel_rfl) (by kernel_rfl) (fun _ _ _ h => h) (Or.inl ⟨by rfl, fun w hS => by first | (go_simp; done) | (go_simp; with_reducible rfl)⟩) hHeld ?_
            try simp only [Act.put, List.getElem_toArray, List.getElem_cons_zero, List.getElem_cons_succ, List.setIfInBounds_toArray, List.set_cons_zero, List.set_cons_succ]
            refine wpAnyK_take (i := 5) (v := _) rfl (by kernel_rfl) (by kernel_rfl) (by kernel_rfl) (by kernel_rfl) (fun _ _ _ h => h) (yieldsIf_load_mid (by rfl) 22 (.tmp 70) rfl Bx 0 rfl (bv s) _ (fun w h => (KEEP.out w h).1) Tryd.underlying22 rfl (isz26s HX.out)) hHeld ?_
            try simp only [Act.put, List.getElem_toArray, List.getElem_cons_zero, List.getElem_cons_succ, List.setIfInBounds_toArray, List.set_cons_zero, List.set_cons_succ]
            refine wpAnyK_take (i := 6) (v := _) rfl (by kernel_rfl) (by kernel_rfl) (by kernel_rfl) (by kernel_rfl) (fun _ _ _ h => h) (yieldsIf_load_mid (by rfl) 22 (.tmp 17) rfl Sb 0 rfl (bv a2) _ (fun w h => (KEEP.out w h).2.2) Tryd.underlying22 rfl (isz26s HA2.out)) hHeld ?_
            try simp only [Act.put, List.getElem_toArray, List.getElem_cons_zero, List.getElem_cons_succ, List.setIfInBounds_toArray, List.set_cons_zero, List.set_cons_succ]
            refine wpAnyK_ready (rs := [3]) (by kernel_rfl) (by simp) ?_
            refine AllReadyK.cons rfl (fun K hK => ?_) AllReadyK.nil
            go_simp
            go_wp2_with (go_at_call 40; refine (node_any s a1 _ HX.out HA1.out (HGL.out _ k0)).mono ?_; rintro e w9 ⟨rfl, hb9⟩; have k9 := k0.trans (hb9.mono k0.size))
            refine hK.out _ _ ?_ (fun hHeld => ?_)
            · exact k9
            clear hK K
            try simp only [Act.put, List.getElem_toArray, List.getElem_cons_zero, List.getElem_cons_succ, List.setIfInBounds_toArray, List.set_cons_zero, List.set_cons_succ]
            refine wpAnyK_ready (rs := [7]) (by kernel_rfl) (by simp) ?_
            refine AllReadyK.cons rfl (fun K hK => ?_) AllReadyK.nil
            go_simp
            go_wp2_with (go_at_call 40; refine (node_any s a2 _ HX.out HA2.out (HGL.out _ k9)).mono ?_; rintro e wa ⟨rfl, hba⟩; have ka := k9.trans (hba.mono k9.size))
            refine hK.out _ _ ?_ (fun hHeld => ?_)
            · exact ka
            clear hK K
            try simp only [Act.put, List.getElem_toArray, List.getElem_cons_zero, List.getElem_cons_succ, List.setIfInBounds_toArray, List.set_cons_zero, List.set_cons_succ]
            have y1 : BlkIs wa Sa 22 (bv a1).toArray := (ka.block _ J2.out.lt).trans J2.out
            have y2 : BlkIs wa Sb 22 (bv a2).toArray := (ka.block _ J2'.out.lt).trans J2'.out
            refine wpAnyK_ready (rs := [8]) (by kernel_rfl) (by simp) ?_
            refine AllReadyK.late rfl (by kernel_rfl) (fun K hK => ?_) AllReadyK.nil
            refine step_store (.tmp 16) (.tmp 69) 22 Sa 22 _ (bv (nodeS s a1)).toArray y1 rfl rfl rfl rfl rfl (isz26a HN1.out) (by rw [List.size_toArray, List.size_toArray, bv_length, bv_length, HA1.out, HN1.out]) (bv_all _) ?_; intro wb hbb htb
            refine hK.out _ _ ?_ (fun _ => ?_)
            · trivial
            clear hK K
            try simp only [Act.put, List.getElem_toArray, List.getElem_cons_zero, List.getElem_cons_succ, List.setIfInBounds_toArray, List.set_cons_zero, List.set_cons_succ]
            refine wpAnyK_ready (rs := [9]) (by kernel_rfl) (by simp) ?_
            refine AllReadyK.late rfl (by kernel_rfl) (fun K hK => ?_) AllReadyK.nil
            refine step_store (.tmp 17) (.tmp 73) 22 Sb 22 _ (bv (nodeS s a2)).toArray (BlkIs.tn y2 htb (by omega)) rfl rfl rfl rfl rfl (isz26a HN2.out) (by rw [List.size_toArray, List.size_toArray, bv_length, bv_length, HA2.out, HN2.out]) (bv_all _) ?_; intro wc hbc htc
            refine hK.out _ _ ?_ (fun _ => ?_)
            · trivial
            clear hK K
            try simp only [Act.put, List.getElem_toArray, List.getElem_cons_zero, List.getElem_cons_succ, List.setIfInBounds_toArray, List.set_cons_zero, List.set_cons_succ]
            refine wpAnyK_done (by kernel_rfl) (NormalAt.mk ?_) _
            exact gr_done J1.out J1'.out J3.out j4 (by omega) (by omega) ka (tn_or htb htc) (BlkIs.tn hbb htc (by omega)) hbc HSN.out
        case done =>
          rintro D xs W hD rfl ⟨⟨j1, j1'⟩, j2, j2', j3, j4⟩ hK
          rw [gotS_all hsdl x0, ← hrest.out.2] at j2 j2'
          dsimp only at j2 j2'
          have ra := BlkIs.sum j2
          have rb := BlkIs.sum j2'
          have r0 := BlkIs.sum j1
          have r1 := BlkIs.sum j1'
          have hea := fun w => run_eq24 ba old HBA.out HLL.out w
          have heb := fun w => run_eq24 bb root HBB.out HRR.out w
          have hlN := j1.lt
          have hq := hW8.size
          have hfin : ∀ b : Bool, b = ((ba == old) && (bb == root)) → Hid (Ending.returned (.bool b) = .returned (.bool (bo && (ba == old) && (bb == root))) ∧ Below w.heap.size w (W.putObj D (.deferred none))) := fun b hb => Lib.hid ⟨by rw [hb, hrest.out.1, Bool.true_and], j3.trans ((Below.refl w.heap.size W).grown (grownBy_putObj' W D (.deferred none)) (Nat.le_of_lt hlN) (fun k hk => by injection hk with hk; omega))⟩
          cases hab : (ba == old)
          · have HF := hfin false (by rw [hab]; rfl)
            simp only [hab] at hea
            clear hfin
            gi_wp2_with (first
              | (refine lin_load_mid (Wide.wide _ _) rfl 22 (.tmp 16) rfl Sa 0 rfl (bv ba) _ ra Tryd.underlying22 rfl (isz26s HBA.out) ?_)
              | (refine lin_load_mid (Wide.wide _ _) rfl 22 (.tmp 5) rfl w.heap.size 0 rfl (bv old) _ r0 Tryd.underlying22 rfl (isz26s HLL.out) ?_)
              | fail)
            refine ⟨by simp, .inl ⟨_, _, rfl, run_takeDeferred hK, ?_⟩⟩
            exact ⟨_, results_tmp rfl _ _ _, by first | exact HF.out | (refine ⟨?_, HF.out.2⟩; rw [← HF.out.1]; rfl)⟩
          · have HF := hfin (bb == root) (by rw [hab]; rfl)
            simp only [hab] at hea
            clear hfin
            gi_wp2_with (first
              | (refine lin_load_mid (Wide.wide _ _) rfl 22 (.tmp 16) rfl Sa 0 rfl (bv ba) _ ra Tryd.underlying22 rfl (isz26s HBA.out) ?_)
              | (refine lin_load_mid (Wide.wide _ _) rfl 22 (.tmp 5) rfl w.heap.size 0 rfl (bv old) _ r0 Tryd.underlying22 rfl (isz26s HLL.out) ?_)
              | (refine lin_want (Wide.wide _ _) rfl 22 (.tmp 17) rfl Sb 0 rfl (bv bb) _ rb Tryd.underlying22 rfl (isz26s HBB.out) ?_)
              | (refine lin_want (Wide.wide _ _) rfl 22 (.tmp 7) rfl (w.heap.size + 1) 0 rfl (bv root) _ r1 Tryd.underlying22 rfl (isz26s HRR.out) ?_)
              | fail)
            refine ⟨by simp, .inl ⟨_, _, rfl, run_takeDeferred hK, ?_⟩⟩
            exact ⟨_, results_tmp rfl _ _ _, by first | exact HF.out | (refine ⟨?_, HF.out.2⟩; rw [← HF.out.1]; rfl)⟩
        case stop =>
          rintro D cd pre W _ _ h _
          exact h.elim
    · have hub : Hid ((bo && (ba == old) && (bb == root)) = false) := Lib.hid (by
        have e : rest ≠ [] := by
          rw [← HREV.out]
          intro h
          have h2 := congrArg List.length h
          rw [List.length_reverse, HL2.out] at h2
          exact h0 h2
        rw [HQ1.out]
        simp [belowS, e])
      have h0' : (0 : Int) < (len2 : Int) := by omega
      gi_wp2_with (first
        | (refine lin_load_mid (Wide.wide _ _) rfl 22 (.tmp 5) rfl w.heap.size 0 rfl (bv old) _ hb0r Tryd.underlying22 rfl (isz26s HLL.out) ?_)
        | (refine lin_store (Wide.wide _ _) (.tmp 15) (.tmp 38) 22 w2.heap.size 22 _ (bv old).toArray (BlkIs.new w2 _ _) rfl rfl rfl rfl rfl (isz26a HLL.out) HZL.out (bv_all _) ?_; intro w3 hb3 ht3; have k3 : Below w2.heap.size w2 w3 := (below1 w2 _).trans (ht3.below (by simp) (fun i hi h => by omega)); clear ht3 hb0r)
        | fail)
      refine ⟨trivial, callsIn_wide.2 ((CT.out _ k3).mono ?_)⟩
      rintro e w4 ⟨rfl, hb4⟩
      have k4 : Below w2.heap.size w2 w4 := k3.trans (hb4.mono k3.size)
      have hX4 : BlkIs w4 w2.heap.size 22 (bv old).toArray := (hb4.block _ hb3.lt).trans hb3
      clear hb4 hb3 k3
      gi_wp2_with fail
      exact ⟨_, results_tmp rfl _ _ _, by rw [hub.out]; rfl, HBW.out.trans (k4.mono HBW.out.size)⟩
set_option maxRecDepth 100000 in
set_option maxHeartbeats 6400000 in
theorem grown_t (old root : List UInt8) (A : Option Addr) (p c m n : Nat) (L : List (List UInt8)) (w : World) (ho : old.length = 32) (hr : root.length = 32) (hp : L.length = p) (h9 : p ≤ 100000) (hc : p ≤ c) (hm : c ≤ maxLen) (h : Hs w w.heap.size A L) (h1m : 1 ≤ m) (hmn : m ≤ n) (h63 : n ≤ 9223372036854775807) (hg : Glob w)
    (hw : (apartR (fun n m => decide (n = m)) n m L.reverse).1.any (·.2) = true) :
    CallsIn Fence.wide 3 Tryd.prog 15 #[.agg (bv old).toArray, .int .i64 m, .agg (bv root).toArray, .int .i64 n, .slice A p c] w fun e w' => e = .returned (.bool ((bothR m n true old L.reverse).2.2 && ((bothR m n true old L.reverse).1 == old) && ((bothR m n true old L.reverse).2.1 == root))) ∧ Below w.heap.size w w' := by
  have h1 : 1 ≤ 3 := by omega
  have GS := Lib.hid hg.size
  have i1 : ¬ (m : Int) < 1 := by omega
  have i2 : ¬ (n : Int) < (m : Int) := by omega
  have HAP : Hid (∀ W, Below w.heap.size w W → Calls Tryd.prog 42 #[.int .i64 n, .int .i64 m, .slice A p c, .func (.func 41) #[] #[]] W fun e w' => ∃ v1 A2 len2 c2 L2, e = .returned (.tuple #[v1, .slice A2 len2 c2, .bool (apartR (fun n m => decide (n = m)) n m L.reverse).2.2]) ∧
      OwnD w' W.heap.size v1 (apartR (fun n m => decide (n = m)) n m L.reverse).1 ∧ Hs w' w'.heap.size A2 L2 ∧ L2.length = len2 ∧ len2 ≤ c2 ∧ c2 ≤ maxLen ∧ L2.reverse = (apartR (fun n m => decide (n = m)) n m L.reverse).2.1 ∧ Below W.heap.size W w') := Lib.hid fun W hb =>
    apart_calls 41 (fun n m => decide (n = m)) (enters_of Tryd.func41 (by kernel_rfl) rfl) (fun n m w _ _ _ => full_any n m w) (fun n m a b hf => by
      have h2 : n ≠ m := by simpa using hf
      omega) A p c n m L W hp h9 hc hm ((h.below hb).more hb.size) (by omega) (by omega) h63
  obtain ⟨q1, q2⟩ := apart_both old L.reverse m n true h1m hmn
  have hsd := apartR_len (fun n m => decide (n = m)) L.reverse n m
  rw [List.length_reverse, hp] at hsd
  obtain ⟨bl1, bl2⟩ := bothR_length ho L.reverse m n true (fun x hx => h.1 x (by simpa using hx))
  generalize apartR (fun n m => decide (n = m)) n m L.reverse = ap at *
  obtain ⟨sd, rest, ok⟩ := ap
  dsimp only at q1 q2 HAP hsd hw
  rw [hw] at q1 q2
  generalize bothR m n true old L.reverse = bt at *
  obtain ⟨ba, bb, bo⟩ := bt
  dsimp only at q1 q2 bl1 bl2 ⊢
  simp only [Bool.not_true, Bool.false_or] at q1 q2
  have HW := Lib.hid hw
  clear hw
  refine callsIn_of_wp_marks Tryd.func15 rfl trivial ?_ rfl
  simp only [Tryd.ntmps15, List.size_toArray, List.length_cons, List.length_nil, Nat.reduceAdd, Nat.reduceSub, Array.replicate_succ, Array.replicate_zero, List.push_toArray, List.append_toArray, List.nil_append, List.cons_append]
  gi_wp2_with fail
  refine ⟨trivial, callsIn_wide.2 ((HAP.out _ (below2 w _ _)).mono ?_)⟩
  rintro e w2 ⟨v1, A2, len2, c2, L2, rfl, hov, hs2, hl2, hc2, hm2, hrev, hb2⟩
  have hsz2 := hb2.size
  have hbw : Below w.heap.size w w2 := (below2 w _ _).trans (hb2.mono (by simp; omega))
  have b0 : BlkIs w2 w.heap.size 22 (bv old).toArray := (hb2.block _ (by simp; omega)).trans (two_blocks w _ _).1
  have b1 : BlkIs w2 (w.heap.size + 1) 22 (bv root).toArray := (hb2.block _ (by simp)).trans (two_blocks w _ _).2
  obtain ⟨Av, cv, ev, hv1, hv2⟩ := hov.slice
  obtain ⟨sl, hsl⟩ : ∃ sl, sl = sd.length := ⟨_, rfl⟩
  rw [← hsl] at ev hsd
  subst ev
  have HSL := Lib.hid hsl
  have HOV := Lib.hid (hov.more (by simp; omega : w.heap.size ≤ _))
  have HB0 := Lib.hid b0
  have HB1 := Lib.hid b1
  have HBW := Lib.hid hbw
  have HBA := Lib.hid bl1
  have HBB := Lib.hid bl2
  have HQ1 := Lib.hid q1
  have HQ2 := Lib.hid q2
  have HS2 := Lib.hid hs2
  have HL2 := Lib.hid hl2
  have HREV := Lib.hid hrev
  clear hsl hov b0 b1 hbw q1 q2 bl1 bl2 hs2 hb2 HAP hl2 hrev
  have HLL := Lib.hid ho
  have HRR := Lib.hid hr
  have HZL : Hid ((bv (List.replicate 32 0)).toArray.size = (bv old).toArray.size) := Lib.hid (by rw [List.size_toArray, List.size_toArray, bv_length, bv_length, ho]; rfl)
  clear ho hr
  cases ok
  · have hub : Hid ((bo && (ba == old) && (bb == root)) = false) := Lib.hid (by rw [HQ1.out]; rfl)
    gi_wp2_with fail
    exact ⟨_, results_tmp rfl _ _ _, by rw [hub.out]; rfl, HBW.out⟩
  · have CT : Hid (∀ W, Below w2.heap.size w2 W → Calls Tryd.prog 43 #[.slice Av sl cv, .func (.func 44) #[] #[]] W fun e w' => e = .returned (.bool true) ∧ Below W.heap.size W w') := Lib.hid fun W hb => by
      have := contains_any Av sl cv sd W HSL.out.symm (by omega) ((HOV.out.ds.below hb).more hb.size)
      rwa [HW.out] at this
    have hb0r := BlkIs.sum HB0.out
    by_cases h0 : len2 = 1
    · subst h0
      obtain ⟨x0, hx0⟩ : ∃ x0, L2 = [x0] := List.length_eq_one_iff.1 HL2.out
      have hs2 := HS2.out
      rw [hx0] at hs2
      obtain ⟨g2, o2, rfl, hg2, hr2⟩ := hs2.at_ (k := 0) (by simp)
      have HR2 : Hid (w2.rangeAt g2 o2 (bv x0)) := Lib.hid (by simpa using hr2)
      have HX0 : Hid (x0.length = 32) := Lib.hid (hs2.1 x0 (by simp))
      have hrest : Hid (bo = true ∧ (ba, bb) = sd.foldr bothS (x0, x0)) := Lib.hid (by
        have e : rest = [x0] := by rw [← HREV.out, hx0]; rfl
        have e1 : bo = true := by rw [HQ1.out, e]; rfl
        refine ⟨e1, ?_⟩
        rw [HQ2.out e1, e]
        rfl)
      have hcut : ∀ w', (Instr.slice 23 (.slice (some ⟨g2, o2, none⟩) 1 c2) none (some (.int .i64 (0 : Nat))) none).run Tryd.prog w' = .ok (.slice (some ⟨g2, o2, none⟩) 0 c2) w' := cutH_lo (some ⟨g2, o2, none⟩) 1 c2 0 (by omega) hc2
      rw [Int.natCast_zero] at hcut
      have HCUT := Lib.hid hcut
      clear hs2 hr2 hcut
      gi_wp2_with (first
        | (refine lin_load_mid (Wide.wide _ _) rfl 22 (.tmp 5) rfl w.heap.size 0 rfl (bv old) _ hb0r Tryd.underlying22 rfl (isz26s HLL.out) ?_)
        | (refine lin_store (Wide.wide _ _) (.tmp 15) (.tmp 38) 22 w2.heap.size 22 _ (bv old).toArray (BlkIs.new w2 _ _) rfl rfl rfl rfl rfl (isz26a HLL.out) HZL.out (bv_all _) ?_; intro w3 hb3 ht3; have k3 : Below w2.heap.size w2 w3 := (below1 w2 _).trans (ht3.below (by simp) (fun i hi h => by omega)); clear ht3 hb0r)
        | fail)
      refine ⟨trivial, callsIn_wide.2 ((CT.out _ k3).mono ?_)⟩
      rintro e w4 ⟨rfl, hb4⟩
      have k4 : Below w2.heap.size w2 w4 := k3.trans (hb4.mono k3.size)
      have hX4 : BlkIs w4 w2.heap.size 22 (bv old).toArray := (hb4.block _ hb3.lt).trans hb3
      clear hb4 hb3 k3
      have hr4 := range_below HR2.out k4 hg2
      have hcut := HCUT.out
      have hZX : (bv old).toArray.size = (bv x0).toArray.size := by rw [List.size_toArray, List.size_toArray, bv_length, bv_length, HX0.out, HLL.out]
      gi_wp2_with (first
        | (refine lin_load_mid (Wide.wide _ _) rfl 22 (.tmp 48) rfl g2 o2 rfl (bv x0) _ hr4 Tryd.underlying22 rfl (isz26s HX0.out) ?_)
        | (refine lin_store (Wide.wide _ _) (.tmp 15) (.tmp 49) 22 w2.heap.size 22 _ (bv x0).toArray hX4 rfl rfl rfl rfl rfl (isz26a HX0.out) hZX (bv_all _) ?_; intro w5 hX5 ht5; have k5 : Below w2.heap.size w2 w5 := k4.trans (ht5.below k4.size (fun i hi h => by omega)); clear ht5 hX4 k4)
        | fail)
      clear hcut hr4 hZX
      have hlt4 := hX5.lt
      have hR0 : BlkIs w5 w.heap.size 22 (bv old).toArray := (k5.block _ HB0.out.lt).trans HB0.out
      have hR1 : BlkIs w5 (w.heap.size + 1) 22 (bv root).toArray := (k5.block _ HB1.out.lt).trans HB1.out
      have HR0 := Lib.hid hR0
      have HR1 := Lib.hid hR1
      have hltR := HB1.out.lt
      have HZX : Hid ((bv (List.replicate 32 0)).toArray.size = (bv x0).toArray.size) := Lib.hid (by rw [List.size_toArray, List.size_toArray, bv_length, bv_length, HX0.out]; rfl)
      have hx4 := BlkIs.sum hX5
      clear hR0 hR1
      have d4 : w5.drew.rangeAt w2.heap.size 0 (bv x0) := BlkIs.sum ((Alk.drew w5).blk hX5)
      have kd : Below w5.heap.size w5 w5.drew := (Below.refl _ w5).drew
      refine regionIn_held_drew (S := (fun W => W.rangeAt w2.heap.size 0 (bv x0))) (Wide.wide _ _) (by kernel_rfl) (by kernel_rfl) (d4) (fun hHeld => ?_)
      refine wpAnyH_take (i := 0) (v := _) rfl (by kernel_rfl) (by kernel_rfl) (by kernel_rfl) (fun _ _ _ h => h) (yieldsIf_load_mid (by rfl) 22 (.tmp 15) rfl w2.heap.size 0 rfl (bv x0) _ (fun w h => h) Tryd.underlying22 rfl (isz26s HX0.out)) hHeld ?_
      try simp only [Act.put, List.getElem_toArray, List.getElem_cons_zero, List.setIfInBounds_toArray, List.set_cons_zero, List.set_cons_succ]
      refine wpAnyH_take (i := 1) (v := _) rfl (by kernel_rfl) (by kernel_rfl) (by kernel_rfl) (fun _ _ _ h => h) (yieldsIf_load_mid (by rfl) 22 (.tmp 15) rfl w2.heap.size 0 rfl (bv x0) _ (fun w h => h) Tryd.underlying22 rfl (isz26s HX0.out)) hHeld ?_
      try simp only [Act.put, List.getElem_toArray, List.getElem_cons_zero, List.getElem_cons_succ, List.setIfInBounds_toArray, List.set_cons_zero, List.set_cons_succ]
      refine wpAnyH_ready (rs := [2, 3]) (by kernel_rfl) (by simp) ?_
      refine AllReadyH.cons rfl (fun K hK => ?_) (AllReadyH.cons rfl (fun K hK => ?_) AllReadyH.nil)
      go_simp
      refine hK.out _ _ ?_ (fun hHeld => ?_)
      · exact range_below hHeld (below1 _ _) (range_lt hHeld (by rw [HX0.out]; omega))
      clear hK K
      try simp only [Act.put, List.getElem_toArray, List.getElem_cons_zero, List.getElem_cons_succ, List.setIfInBounds_toArray, List.set_cons_zero, List.set_cons_succ]
      refine wpAnyH_ready (rs := [3]) (by kernel_rfl) (by simp) ?_
      refine AllReadyH.cons rfl (fun K hK => ?_) AllReadyH.nil
      go_simp
      refine hK.out _ _ ?_ (fun hHeld => ?_)
      · exact range_below hHeld (below1 _ _) (range_lt hHeld (by rw [HX0.out]; omega))
      clear hK K
      try simp only [Act.put, List.getElem_toArray, List.getElem_cons_zero, List.getElem_cons_succ, List.setIfInBounds_toArray, List.set_cons_zero, List.set_cons_succ]
      have tb2 := two_blocks w5.drew (.cells (bv (List.replicate 32 0)).toArray 22) (.cells (bv (List.replicate 32 0)).toArray 22)
      have kk2 := ((Below.refl _ w5).drew.alloc (Nat.le_refl _) (.cells (bv (List.replicate 32 0)).toArray 22)).alloc (by simp) (.cells (bv (List.replicate 32 0)).toArray 22)
      refine wpAnyH_ready (rs := [4]) (by kernel_rfl) (by simp) ?_
      refine AllReadyH.cons rfl (fun K hK => ?_) AllReadyH.nil
      refine step_store (.tmp 16) (.tmp 58) 22 w5.heap.size 22 _ (bv x0).toArray tb2.1 rfl rfl rfl rfl rfl (isz26a HX0.out) HZX.out (bv_all _) ?_; intro w6 hb6 ht6
      refine hK.out _ _ ?_ (fun hHeld => ?_)
      · exact range_tn hHeld ht6 (by omega)
      clear hK K
      try simp only [Act.put, List.getElem_toArray, List.getElem_cons_zero, List.getElem_cons_succ, List.setIfInBounds_toArray, List.set_cons_zero, List.set_cons_succ]
      refine wpAnyH_ready (rs := [5]) (by kernel_rfl) (by simp) ?_
      refine AllReadyH.cons rfl (fun K hK => ?_) AllReadyH.nil
      refine step_store (.tmp 17) (.tmp 59) 22 (w5.heap.size + 1) 22 _ (bv x0).toArray (BlkIs.tn tb2.2 ht6 (by show ¬ (w5.heap.size + 1 = w5.heap.size); omega)) rfl rfl rfl rfl rfl (isz26a HX0.out) HZX.out (bv_all _) ?_; intro w7 hb7 ht7
      refine hK.out _ _ ?_ (fun hHeld => ?_)
      · exact range_tn hHeld ht7 (by omega)
      clear hK K
      try simp only [Act.put, List.getElem_toArray, List.getElem_cons_zero, List.getElem_cons_succ, List.setIfInBounds_toArray, List.set_cons_zero, List.set_cons_succ]
      refine wpAnyH_done (by kernel_rfl) (NormalAt.mk ?_) _
      have k7 : Below w5.heap.size w5 w7 := two_stores ht6 ht7 kk2 (fun i hi h => by omega) (fun i hi h => by omega)
      have hA : BlkIs w7 w5.heap.size 22 (bv x0).toArray := BlkIs.tn hb6 ht7 (by omega)
      have hB : BlkIs w7 (w5.heap.size + 1) 22 (bv x0).toArray := hb7
      obtain ⟨Sb, hSb⟩ : ∃ g, g = w5.heap.size + 1 := ⟨_, rfl⟩
      rw [← hSb] at hB ⊢
      obtain ⟨Sa, hSa⟩ : ∃ g, g = w5.heap.size := ⟨_, rfl⟩
      rw [← hSa] at hA ⊢
      have hges : w5.heap.size ≤ Sa ∧ w5.heap.size ≤ Sb ∧ Sa ≠ Sb := by omega
      clear hSa hSb ht6 ht7 hb6 hb7 tb2 kk2
      rotate_left
      go_simp
      refine hK.out _ _ ?_ (fun hHeld => ?_)
      · exact range_below hHeld (below1 _ _) (range_lt hHeld (by rw [HX0.out]; omega))
      clear hK K
      try simp only [Act.put, List.getElem_toArray, List.getElem_cons_zero, List.getElem_cons_succ, List.setIfInBounds_toArray, List.set_cons_zero, List.set_cons_succ]
      refine wpAnyH_ready (rs := [2]) (by kernel_rfl) (by simp) ?_
      refine AllReadyH.cons rfl (fun K hK => ?_) AllReadyH.nil
      go_simp
      refine hK.out _ _ ?_ (fun hHeld => ?_)
      · exact range_below hHeld (below1 _ _) (range_lt hHeld (by rw [HX0.out]; omega))
      clear hK K
      try simp only [Act.put, List.getElem_toArray, List.getElem_cons_zero, List.getElem_cons_succ, List.setIfInBounds_toArray, List.set_cons_zero, List.set_cons_succ]
      have tb2 := two_blocks w5.drew (.cells (bv (List.replicate 32 0)).toArray 22) (.cells (bv (List.replicate 32 0)).toArray 22)
      have kk2 := ((Below.refl _ w5).drew.alloc (Nat.le_refl _) (.cells (bv (List.replicate 32 0)).toArray 22)).alloc (by simp) (.cells (bv (List.replicate 32 0)).toArray 22)
      refine wpAnyH_ready (rs := [4]) (by kernel_rfl) (by simp) ?_
      refine AllReadyH.cons rfl (fun K hK => ?_) AllReadyH.nil
      refine step_store (.tmp 16) (.tmp 58) 22 (w5.heap.size + 1) 22 _ (bv x0).toArray tb2.2 rfl rfl rfl rfl rfl (isz26a HX0.out) HZX.out (bv_all _) ?_; intro w6 hb6 ht6
      refine hK.out _ _ ?_ (fun hHeld => ?_)
      · exact range_tn hHeld ht6 (by omega)
      clear hK K
      try simp only [Act.put, List.getElem_toArray, List.getElem_cons_zero, List.getElem_cons_succ, List.setIfInBounds_toArray, List.set_cons_zero, List.set_cons_succ]
      refine wpAnyH_ready (rs := [5]) (by kernel_rfl) (by simp) ?_
      refine AllReadyH.cons rfl (fun K hK => ?_) AllReadyH.nil
      refine step_store (.tmp 17) (.tmp 59) 22 w5.heap.size 22 _ (bv x0).toArray (BlkIs.tn tb2.1 ht6 (by show ¬ (w5.heap.size = w5.heap.size + 1); omega)) rfl rfl rfl rfl rfl (isz26a HX0.out) HZX.out (bv_all _) ?_; intro w7 hb7 ht7
      refine hK.out _ _ ?_ (fun hHeld => ?_)
      · exact range_tn hHeld ht7 (by omega)
      clear hK K
      try simp only [Act.put, List.getElem_toArray, List.getElem_cons_zero, List.getElem_cons_succ, List.setIfInBounds_toArray, List.set_cons_zero, List.set_cons_succ]
      refine wpAnyH_done (by kernel_rfl) (NormalAt.mk ?_) _
      have k7 : Below w5.heap.size w5 w7 := two_stores ht6 ht7 kk2 (fun i hi h => by omega) (fun i hi h => by omega)
      have hA : BlkIs w7 (w5.heap.size + 1) 22 (bv x0).toArray := BlkIs.tn hb6 ht7 (by omega)
      have hB : BlkIs w7 w5.heap.size 22 (bv x0).toArray := hb7
      obtain ⟨Sa, hSa⟩ : ∃ g, g = w5.heap.size + 1 := ⟨_, rfl⟩
      rw [← hSa] at hA ⊢
      obtain ⟨Sb, hSb⟩ : ∃ g, g = w5.heap.size := ⟨_, rfl⟩
      rw [← hSb] at hB ⊢
      have hges : w5.heap.size ≤ Sa ∧ w5.heap.size ≤ Sb ∧ Sa ≠ Sb := by omega
      clear hSa hSb ht6 ht7 hb6 hb7 tb2 kk2
      rotate_left
      all_goals
        have hk4 := k5.size
        have hkw := HBW.out.size
        gi_wp2_with fail
        refine ⟨trivial, callsIn_wide.2 ((back_D _ _ _ _).mono ?_)⟩
        rintro e w8 ⟨rfl, e8⟩
        have k8 : Below w7.heap.size w7 w8 := e8 ▸ below1 w7 _
        have b8 : BlkIs w8 w7.heap.size 60 #[.slice Av sl cv] := e8 ▸ BlkIs.new w7 _ _
        have hA8 : BlkIs w8 Sa 22 (bv x0).toArray := (k8.block _ hA.lt).trans hA
        have hB8 : BlkIs w8 Sb 22 (bv x0).toArray := (k8.block _ hB.lt).trans hB
        have hltA := hA.lt
        have hltB := hB.lt
        have hlt8 := b8.lt
        have k78 : Below w5.heap.size w5 w8 := k7.trans (k8.mono k7.size)
        have k28 : Below w2.heap.size w2 w8 := k5.trans (k78.mono hk4)
        have hR80 : BlkIs w8 w.heap.size 22 (bv old).toArray := (k28.block _ HB0.out.lt).trans HB0.out
        have hR81 : BlkIs w8 (w.heap.size + 1) 22 (bv root).toArray := (k28.block _ HB1.out.lt).trans HB1.out
        have hW8 : Below w.heap.size w w8 := HBW.out.trans (k28.mono HBW.out.size)
        have hD8 : Ds w8 w2.heap.size Av sd := HOV.out.ds.below k28
        have hsdl : sd.length = sl := HSL.out.symm
        have c8 := b8.cell 0
        have HDS := Lib.hid hD8.1
        clear e8 k8 hA hB k7 hx4 d4 kd b8
        gi_wp2_with fail
        refine wpIn_rangeFunc_ownH rfl h1 (gf := 63) (lb := #[.pointer (some ⟨w7.heap.size, 0, none⟩)]) rfl trivial (enters_of Tryd.func63 (by kernel_rfl) rfl)
          (back_stops_D w7.heap.size w8.heap.size w2.heap.size sl cv (fun i => i = Sa ∨ i = Sb) Av sd hsdl (by omega) w8 (by omega) (by omega) (Nat.le_refl _) (by omega) (fun i hi h => by omega) c8 hD8) Kq.trans (Kq.book (Nat.le_refl _)) (Below.refl _ _) (fun _ => rfl)
          (GrI w.heap.size Sa Sb w8.heap.size old root sd sl x0 w) (fun _ _ _ => False) (grI_own (by omega)) (fun _ _ _ _ _ hs _ _ => hs) ⟨⟨hR80, hR81⟩, hA8, hB8, hW8, Nat.le_refl _⟩
          (GrAT w.heap.size w2.heap.size Sa Sb w7.heap.size old root x0 A Av p c m n sl cv c2 g2 o2 sd) grAT_own ?assign ?body ?done ?stop
        case assign =>
          intro l pre x W K hi hK
          have hx32 := Ds.getD HDS.out (k := x.1) (by rw [hsdl]; exact x.2)
          dsimp only [encD]
          obtain ⟨sx, hsx⟩ : ∃ sx, sx = sd.getD x.1 ([], false) := ⟨_, rfl⟩
          rw [← hsx] at hx32 ⊢
          have hZ : (sv (List.replicate 32 0, false)).toArray.size = (sv sx).toArray.size := by rw [List.size_toArray, List.size_toArray, sv_length hx32]; rfl
          have HSX := Lib.hid hsx
          have HX := Lib.hid hx32
          have HZ := Lib.hid hZ
          clear hsx hx32 hZ
          gi_wp2_with (first
            | (refine lin_store (Wide.round _ _ _) (.tmp 19) (.tmp 63) 65 W.heap.size 65 _ (sv sx).toArray (BlkIs.new W _ _) rfl rfl rfl rfl rfl (isz56a HX.out) HZ.out (sv_all _) ?_; intro w9 hb9 ht9)
            | fail)
          have hb : Below W.heap.size W w9 := (below1 W _).trans (ht9.below (by simp) (fun i hi h => by omega))
          obtain ⟨⟨j1, j1'⟩, j2, j2', j3, j4⟩ := hi
          have hlt := j2.lt
          have hlt' := j2'.lt
          exact hK _ _ (keeps_below hb) (Kq.of_below hb j4) ⟨⟨(hb.block _ j1.lt).trans j1, (hb.block _ j1'.lt).trans j1'⟩, (hb.block _ j2.lt).trans j2, (hb.block _ j2'.lt).trans j2', j3.trans (hb.mono (by have := j1.lt; omega)), Nat.le_trans j4 hb.size⟩ ⟨W.heap.size, hlt, hlt', by rw [← HSX.out]; exact hb9, by rw [← HSX.out]⟩
        case body =>
          rintro l pre x a' W _ ⟨r, hr⟩ ⟨⟨j1, j1'⟩, j2, j2', j3, j4⟩ ⟨Bx, hBx, hBx', bX, rfl⟩ hlt
          have hx32 := Ds.getD HDS.out (k := x.1) (by rw [hsdl]; exact x.2)
          have hsn := gotS_snoc sd sl x0 pre x
          have hacc := gotS_length sd sl HX0.out pre
          generalize sd.getD x.1 ([], false) = sx at *
          obtain ⟨s, b⟩ := sx
          dsimp only at hx32
          generalize gotS sd sl x0 pre = acc at *
          obtain ⟨a1, a2⟩ := acc
          dsimp only at hacc j2 j2'
          have HSN := Lib.hid hsn
          have HX := Lib.hid hx32
          have HA1 := Lib.hid hacc.1
          have HA2 := Lib.hid hacc.2
          have cb : W.cell? ⟨Bx, 32, none⟩ = some (.bool b) := bX.get (by simp [sv, bv_length, hx32])
          have rs : W.rangeAt Bx 0 (bv s) := range_sub (a := []) (n := 0) (c := [.bool b]) (by have := bX.rng; simpa [sv] using this) rfl
          have ra := BlkIs.sum j2
          have rb := BlkIs.sum j2'
          have hlx := bX.lt
          have hlA := j2.lt
          have hlB := j2'.lt
          have HGL : Hid (∀ W', Below W.heap.size W W' → Glob W') := Lib.hid fun W' hb => hg.below (j3.trans (hb.mono (by have := j1.lt; omega))) GS.out
          have J1 := Lib.hid j1
          have J1' := Lib.hid j1'
          have J2 := Lib.hid j2
          have J2' := Lib.hid j2'
          have J3 := Lib.hid j3
          clear hsn hx32 hacc bX j1 j1' j3
          cases b
          · have HN := Lib.hid (nodeS_length a2 s)
            gi_wp2_with (first
              | (refine lin_load_mid (Wide.round _ _ _) rfl 22 (.tmp 17) rfl Sb 0 rfl (bv a2) _ rb Tryd.underlying22 rfl (isz26s HA2.out) ?_)
              | (refine lin_load_mid (Wide.round _ _ _) rfl 22 (.tmp 75) rfl Bx 0 rfl (bv s) _ rs Tryd.underlying22 rfl (isz26s HX.out) ?_)
              | (refine ⟨trivial, CallsIn.inRound l (callsIn_wide.2 ((node_any a2 s W HA2.out HX.out (HGL.out W (Below.refl _ _))).mono ?_))⟩; rintro e w9 ⟨rfl, hb9⟩; have y2 : BlkIs w9 Sb 22 (bv a2).toArray := (hb9.block _ J2'.out.lt).trans J2'.out; have y1 : BlkIs w9 Sa 22 (bv a1).toArray := (hb9.block _ J2.out.lt).trans J2.out)
              | (refine lin_store (Wide.round _ _ _) (.tmp 17) (.tmp 77) 22 Sb 22 _ (bv (nodeS a2 s)).toArray y2 rfl rfl rfl rfl rfl (isz26a HN.out) (by rw [List.size_toArray, List.size_toArray, bv_length, bv_length, HA2.out, HN.out]) (bv_all _) ?_; intro wa hba hta)
              | fail)
            exact gr_done J1.out J1'.out J3.out j4 (by omega) (by omega) hb9 (hta.mono (fun _ _ e => .inr e)) (BlkIs.tn y1 hta (by omega)) hba HSN.out
          · have HN1 := Lib.hid (nodeS_length s a1)
            have HN2 := Lib.hid (nodeS_length s a2)
            gi_wp2_with fail
            have k0 : Below W.heap.size W W.drew := (Below.refl _ W).drew
            have KEEP : Hid (∀ W', Below W.heap.size W W' → W'.rangeAt Bx 0 (bv s) ∧ W'.rangeAt Sa 0 (bv a1) ∧ W'.rangeAt Sb 0 (bv a2)) := Lib.hid fun W' hb => ⟨range_below rs hb hlx, range_below ra hb hlA, range_below rb hb hlB⟩
            refine regionIn_key ((fun W' => Below W.heap.size W W')) 8 (Wide.round _ _ _) (by kernel_rfl) (by kernel_rfl) (k0) (fun hHeld => ?_)
            refine wpAnyK_take (i := 0) (v := .pointer (some ⟨Bx, 0, none⟩)) rfl (by kernel_rfl) (by kernel_rfl) (by kernel_rfl) (by kernel_rfl) (fun _ _ _ h => h) (Or.inl ⟨by rfl, fun w hS => by first | (go_simp; done) | (go_simp; with_reducible rfl)⟩) hHeld ?_
            try simp only [Act.put, List.getElem_toArray, List.getElem_cons_zero, List.setIfInBounds_toArray, List.set_cons_zero, List.set_cons_succ]
            refine wpAnyK_take (i := 1) (v := _) rfl (by kernel_rfl) (by kernel_rfl) (by kernel_rfl) (by kernel_rfl) (fun _ _ _ h => h) (yieldsIf_load_mid (by rfl) 22 (.tmp 66) rfl Bx 0 rfl (bv s) _ (fun w h => (KEEP.out w h).1) Tryd.underlying22 rfl (isz26s HX.out)) hHeld ?_
            try simp only [Act.put, List.getElem_toArray, List.getElem_cons_zero, List.getElem_cons_succ, List.setIfInBounds_toArray, List.set_cons_zero, List.set_cons_succ]
            refine wpAnyK_take (i := 2) (v := _) rfl (by kernel_rfl) (by kernel_rfl) (by kernel_rfl) (by kernel_rfl) (fun _ _ _ h => h) (yieldsIf_load_mid (by rfl) 22 (.tmp 16) rfl Sa 0 rfl (bv a1) _ (fun w h => (KEEP.out w h).2.1) Tryd.underlying22 rfl (isz26s HA1.out)) hHeld ?_
            try simp only [Act.put, List.getElem_toArray, List.getElem_cons_zero, List.getElem_cons_succ, List.setIfInBounds_toArray, List.set_cons_zero, List.set_cons_succ]
            refine wpAnyK_take (i := 4) (v := .pointer (some ⟨Bx, 0, none⟩)) rfl (by kernel_rfl) (by kernel_rfl) (by kernel_rfl) (by kernel_rfl) (fun _ _ _ h => h) (Or.inl ⟨by rfl, fun w hS => by first | (go_simp; done) | (go_simp; with_reducible rfl)⟩) hHeld ?_
            try simp only [Act.put, List.getElem_toArray, List.getElem_cons_zero, List.getElem_cons_succ, List.setIfInBounds_toArray, List.set_cons_zero, List.set_cons_succ]
            refine wpAnyK_take (i := 5) (v := _) rfl (by kernel_rfl) (by kernel_rfl) (by kernel_rfl) (by kernel_rfl) (fun _ _ _ h => h) (yieldsIf_load_mid (by rfl) 22 (.tmp 70) rfl Bx 0 rfl (bv s) _ (fun w h => (KEEP.out w h).1) Tryd.underlying22 rfl (isz26s HX.out)) hHeld ?_
            try simp only [Act.put, List.getElem_toArray, List.getElem_cons_zero, List.getElem_cons_succ, List.setIfInBounds_toArray, List.set_cons_zero, List.set_cons_succ]
            refine wpAnyK_take (i := 6) (v := _) rfl (by kernel_rfl) (by kernel_rfl) (by kernel_rfl) (by kernel_rfl) (fun _ _ _ h => h) (yieldsIf_load_mid (by rfl) 22 (.tmp 17) rfl Sb 0 rfl (bv a2) _ (fun w h => (KEEP.out w h).2.2) Tryd.underlying22 rfl (isz26s HA2.out)) hHeld ?_
            try simp only [Act.put, List.getElem_toArray, List.getElem_cons_zero, List.getElem_cons_succ, List.setIfInBounds_toArray, List.set_cons_zero, List.set_cons_succ]
            refine wpAnyK_ready (rs := [3]) (by kernel_rfl) (by simp) ?_
            refine AllReadyK.cons rfl (fun K hK => ?_) AllReadyK.nil
            go_simp
            go_wp2_with (go_at_call 40; refine (node_any s a1 _ HX.out HA1.out (HGL.out _ k0)).mono ?_; rintro e w9 ⟨rfl, hb9⟩; have k9 := k0.trans (hb9.mono k0.size))
            refine hK.out _ _ ?_ (fun hHeld => ?_)
            · exact k9
            clear hK K
            try simp only [Act.put, List.getElem_toArray, List.getElem_cons_zero, List.getElem_cons_succ, List.setIfInBounds_toArray, List.set_cons_zero, List.set_cons_succ]
            refine wpAnyK_ready (rs := [7]) (by kernel_rfl) (by simp) ?_
            refine AllReadyK.cons rfl (fun K hK => ?_) AllReadyK.nil
            go_simp
            go_wp2_with (go_at_call 40; refine (node_any s a2 _ HX.out HA2.out (HGL.out _ k9)).mono ?_; rintro e wa ⟨rfl, hba⟩; have ka := k9.trans (hba.mono k9.size))
            refine hK.out _ _ ?_ (fun hHeld => ?_)
            · exact ka
            clear hK K
            try simp only [Act.put, List.getElem_toArray, List.getElem_cons_zero, List.getElem_cons_succ, List.setIfInBounds_toArray, List.set_cons_zero, List.set_cons_succ]
            have y1 : BlkIs wa Sa 22 (bv a1).toArray := (ka.block _ J2.out.lt).trans J2.out
            have y2 : BlkIs wa Sb 22 (bv a2).toArray := (ka.block _ J2'.out.lt).trans J2'.out
            refine wpAnyK_ready (rs := [8]) (by kernel_rfl) (by simp) ?_
            refine AllReadyK.late rfl (by kernel_rfl) (fun K hK => ?_) AllReadyK.nil
            refine step_store (.tmp 16) (.tmp 69) 22 Sa 22 _ (bv (nodeS s a1)).toArray y1 rfl rfl rfl rfl rfl (isz26a HN1.out) (by rw [List.size_toArray, List.size_toArray, bv_length, bv_length, HA1.out, HN1.out]) (bv_all _) ?_; intro wb hbb htb
            refine hK.out _ _ ?_ (fun _ => ?_)
            · trivial
            clear hK K
            try simp only [Act.put, List.getElem_toArray, List.getElem_cons_zero, List.getElem_cons_succ, List.setIfInBounds_toArray, List.set_cons_zero, List.set_cons_succ]
            refine wpAnyK_ready (rs := [9]) (by kernel_rfl) (by simp) ?_
            refine AllReadyK.late rfl (by kernel_rfl) (fun K hK => ?_) AllReadyK.nil
            refine step_store (.tmp 17) (.tmp 73) 22 Sb 22 _ (bv (nodeS s a2)).toArray (BlkIs.tn y2 htb (by omega)) rfl rfl rfl rfl rfl (isz26a HN2.out) (by rw [List.size_toArray, List.size_toArray, bv_length, bv_length, HA2.out, HN2.out]) (bv_all _) ?_; intro wc hbc htc
            refine hK.out _ _ ?_ (fun _ => ?_)
            · trivial
            clear hK K
            try simp only [Act.put, List.getElem_toArray, List.getElem_cons_zero, List.getElem_cons_succ, List.setIfInBounds_toArray, List.set_cons_zero, List.set_cons_succ]
            refine wpAnyK_done (by kernel_rfl) (NormalAt.mk ?_) _
            exact gr_done J1.out J1'.out J3.out j4 (by omega) (by omega) ka (tn_or htb htc) (BlkIs.tn hbb htc (by omega)) hbc HSN.out
        case done =>
          rintro D xs W hD rfl ⟨⟨j1, j1'⟩, j2, j2', j3, j4⟩ hK
          rw [gotS_all hsdl x0, ← hrest.out.2] at j2 j2'
          dsimp only at j2 j2'
          have ra := BlkIs.sum j2
          have rb := BlkIs.sum j2'
          have r0 := BlkIs.sum j1
          have r1 := BlkIs.sum j1'
          have hea := fun w => run_eq24 ba old HBA.out HLL.out w
          have heb := fun w => run_eq24 bb root HBB.out HRR.out w
          have hlN := j1.lt
          have hq := hW8.size
          have hfin : ∀ b : Bool, b = ((ba == old) && (bb == root)) → Hid (Ending.returned (.bool b) = .returned (.bool (bo && (ba == old) && (bb == root))) ∧ Below w.heap.size w (W.putObj D (.deferred none))) := fun b hb => Lib.hid ⟨by rw [hb, hrest.out.1, Bool.true_and], j3.trans ((Below.refl w.heap.size W).grown (grownBy_putObj' W D (.deferred none)) (Nat.le_of_lt hlN) (fun k hk => by injection hk with hk; omega))⟩
          cases hab : (ba == old)
          · have HF := hfin false (by rw [hab]; rfl)
            simp only [hab] at hea
            clear hfin
            gi_wp2_with (first
              | (refine lin_load_mid (Wide.wide _ _) rfl 22 (.tmp 16) rfl Sa 0 rfl (bv ba) _ ra Tryd.underlying22 rfl (isz26s HBA.out) ?_)
              | (refine lin_load_mid (Wide.wide _ _) rfl 22 (.tmp 5) rfl w.heap.size 0 rfl (bv old) _ r0 Tryd.underlying22 rfl (isz26s HLL.out) ?_)
              | fail)
            refine ⟨by simp, .inl ⟨_, _, rfl, run_takeDeferred hK, ?_⟩⟩
            exact ⟨_, results_tmp rfl _ _ _, by first | exact HF.out | (refine ⟨?_, HF.out.2⟩; rw [← HF.out.1]; rfl)⟩
          · have HF := hfin (bb == root) (by rw [hab]; rfl)
            simp only [hab] at hea
            clear hfin
            gi_wp2_with (first
              | (refine lin_load_mid (Wide.wide _ _) rfl 22 (.tmp 16) rfl Sa 0 rfl (bv ba) _ ra Tryd.underlying22 rfl (isz26s HBA.out) ?_)
              | (refine lin_load_mid (Wide.wide _ _) rfl 22 (.tmp 5) rfl w.heap.size 0 rfl (bv old) _ r0 Tryd.underlying22 rfl (isz26s HLL.out) ?_)
              | (refine lin_want (Wide.wide _ _) rfl 22 (.tmp 17) rfl Sb 0 rfl (bv bb) _ rb Tryd.underlying22 rfl (isz26s HBB.out) ?_)
              | (refine lin_want (Wide.wide _ _) rfl 22 (.tmp 7) rfl (w.heap.size + 1) 0 rfl (bv root) _ r1 Tryd.underlying22 rfl (isz26s HRR.out) ?_)
              | fail)
            refine ⟨by simp, .inl ⟨_, _, rfl, run_takeDeferred hK, ?_⟩⟩
            exact ⟨_, results_tmp rfl _ _ _, by first | exact HF.out | (refine ⟨?_, HF.out.2⟩; rw [← HF.out.1]; rfl)⟩
        case stop =>
          rintro D cd pre W _ _ h _
          exact h.elim
    · have hub : Hid ((bo && (ba == old) && (bb == root)) = false) := Lib.hid (by
        have e : ∀ s, rest ≠ [s] := by
          intro s h
          rw [← HREV.out] at h
          have h2 := congrArg List.length h
          rw [List.length_reverse, HL2.out] at h2
          exact h0 h2
        rw [HQ1.out]
        unfold belowS
        rcases rest with _ | ⟨a, _ | ⟨b, r⟩⟩
        · rfl
        · exact absurd rfl (e a)
        · rfl)
      by_cases h00 : len2 = 0
      · subst h00
        gi_wp2_with (first
          | (refine lin_load_mid (Wide.wide _ _) rfl 22 (.tmp 5) rfl w.heap.size 0 rfl (bv old) _ hb0r Tryd.underlying22 rfl (isz26s HLL.out) ?_)
          | (refine lin_store (Wide.wide _ _) (.tmp 15) (.tmp 38) 22 w2.heap.size 22 _ (bv old).toArray (BlkIs.new w2 _ _) rfl rfl rfl rfl rfl (isz26a HLL.out) HZL.out (bv_all _) ?_; intro w3 hb3 ht3; have k3 : Below w2.heap.size w2 w3 := (below1 w2 _).trans (ht3.below (by simp) (fun i hi h => by omega)); clear ht3 hb0r)
          | fail)
        refine ⟨trivial, callsIn_wide.2 ((CT.out _ k3).mono ?_)⟩
        rintro e w4 ⟨rfl, hb4⟩
        have k4 : Below w2.heap.size w2 w4 := k3.trans (hb4.mono k3.size)
        have hX4 : BlkIs w4 w2.heap.size 22 (bv old).toArray := (hb4.block _ hb3.lt).trans hb3
        clear hb4 hb3 k3
        gi_wp2_with fail
        exact ⟨_, results_tmp rfl _ _ _, by rw [hub.out]; rfl, HBW.out.trans (k4.mono HBW.out.size)⟩
      · obtain ⟨q, rfl⟩ : ∃ q, len2 = q + 1 := ⟨len2 - 1, by omega⟩
        obtain ⟨g2, o2, rfl, hg2, hr2⟩ := HS2.out.at_ (k := q) (by rw [HL2.out]; omega)
        obtain ⟨x0, hx0⟩ : ∃ x0, x0 = L2.getD q [] := ⟨_, rfl⟩
        rw [← hx0] at hr2
        have HX0 : Hid (x0.length = 32) := Lib.hid (by rw [hx0]; exact HS2.out.1.getD (by rw [HL2.out]; omega))
        have HR2 := Lib.hid hr2
        have HCUT := Lib.hid (cutH_lo (some ⟨g2, o2, none⟩) (q + 1) c2 q (by omega) hc2)
        have n0 : ((q : Int) + 1 == 0) = false := by simp; omega
        have n1 : (0 : Int) < (q : Int) := by omega
        have n2 : (q : Int) < (q : Int) + 1 := by omega
        have n3 : ¬ (q : Int) + 1 = 0 := by omega
        have q9 : (q : Int) ≤ 9223372036854775807 := by
          have := hm2
          unfold maxLen at this
          omega
        clear hr2 hx0
        gi_wp2_with (first
          | (refine lin_load_mid (Wide.wide _ _) rfl 22 (.tmp 5) rfl w.heap.size 0 rfl (bv old) _ hb0r Tryd.underlying22 rfl (isz26s HLL.out) ?_)
          | (refine lin_store (Wide.wide _ _) (.tmp 15) (.tmp 38) 22 w2.heap.size 22 _ (bv old).toArray (BlkIs.new w2 _ _) rfl rfl rfl rfl rfl (isz26a HLL.out) HZL.out (bv_all _) ?_; intro w3 hb3 ht3; have k3 : Below w2.heap.size w2 w3 := (below1 w2 _).trans (ht3.below (by simp) (fun i hi h => by omega)); clear ht3 hb0r)
          | fail)
        refine ⟨trivial, callsIn_wide.2 ((CT.out _ k3).mono ?_)⟩
        rintro e w4 ⟨rfl, hb4⟩
        have k4 : Below w2.heap.size w2 w4 := k3.trans (hb4.mono k3.size)
        have hX4 : BlkIs w4 w2.heap.size 22 (bv old).toArray := (hb4.block _ hb3.lt).trans hb3
        clear hb4 hb3 k3
        have hr4 := range_below HR2.out k4 hg2
        have hcut := HCUT.out
        have hZX : (bv old).toArray.size = (bv x0).toArray.size := by rw [List.size_toArray, List.size_toArray, bv_length, bv_length, HX0.out, HLL.out]
        gi_wp2_with (first
          | (refine lin_load_mid (Wide.wide _ _) rfl 22 (.tmp 48) rfl g2 (o2 + q * 32) rfl (bv x0) _ hr4 Tryd.underlying22 rfl (isz26s HX0.out) ?_)
          | (refine lin_store (Wide.wide _ _) (.tmp 15) (.tmp 49) 22 w2.heap.size 22 _ (bv x0).toArray hX4 rfl rfl rfl rfl rfl (isz26a HX0.out) hZX (bv_all _) ?_; intro w5 hX5 ht5; have k5 : Below w2.heap.size w2 w5 := k4.trans (ht5.below k4.size (fun i hi h => by omega)); clear ht5 hX4 k4)
          | fail)
        exact ⟨_, results_tmp rfl _ _ _, by rw [hub.out]; rfl, HBW.out.trans (k5.mono HBW.out.size)⟩
end Go.Proofs.YtfgdochpnnkpmaaDoor
