/- Bytes, lists of bytes and records in memory. Conditions: none. -/
import Derived.Test.YtkpolakdamiiiaaFlMath
import Derived.Test.YtkpolakdamiiiaaProg
import Derived.WalkKit
import Derived.LoopTactic
import Derived.Outline
import Derived.Lib.Hide
import Derived.Below
import Derived.Laws.OwnMore
import Derived.Laws.BitsAllLaws
import Derived.Laws.Rows
import Derived.Laws.BytesArg
import Derived.Laws.AppendOwnNone
import Derived.Maps.AppendAt
import Derived.Deep.AppendLies
import Derived.Deep.Draws
import Derived.PlainAid
import Derived.WalkSpells
import Derived.WalkLawsBesides
import Derived.WalkSmall
import Derived.StillTailTactics
import Derived.BigQuiet
import Derived.Deep.QuietTactic
namespace Go.Proofs.Ytkpolakdamiiiaa
set_option maxRecDepth 100000
open Go.RowKit Go
theorem blk_add (a : Addr) (n : Nat) : (a.add n).block = a.block := by unfold Addr.add; split <;> rfl
theorem add_twice (a : Addr) (i j : Nat) : (a.add i).add j = a.add (i + j) := by
  unfold Addr.add
  by_cases hi : i = 0 <;> by_cases hj : j = 0 <;> simp [hi, hj, Nat.add_assoc]
/-- a slice at A has these cells, below block B; there is an address where there is a cell. -/
def Cs (w : World) (B : Nat) (A : Option Addr) (xs : List Value) : Prop :=
  ∀ j u, xs[j]? = some u → ∃ ad, A = some ad ∧ ad.block < B ∧ w.cell? (ad.add j) = some u
section
variable {w w' : World} {B B' : Nat} {A : Option Addr} {xs : List Value}
theorem Cs.nil : Cs w B A [] := fun j u h => by simp at h
theorem Cs.keep (h : Cs w B A xs) (hk : ∀ p : Addr, p.block < B → w'.cell? p = w.cell? p) : Cs w' B A xs := fun j u hj => by
  obtain ⟨ad, e, hb, hc⟩ := h j u hj
  exact ⟨ad, e, hb, (hk _ (by rw [blk_add]; exact hb)).trans hc⟩
theorem Cs.below (h : Cs w B A xs) (hb : Below B w w') : Cs w' B A xs := h.keep fun _ hp => hb.cell hp
theorem Cs.more (h : Cs w B A xs) (hB : B ≤ B') : Cs w B' A xs := fun j u hj => by
  obtain ⟨ad, e, hb, hc⟩ := h j u hj
  exact ⟨ad, e, by omega, hc⟩
theorem Cs.drop (h : Cs w B A xs) {k : Nat} (c : Nat) (hc : xs.length ≤ c) : Cs w B (if c = k then A else A.map (·.add (k * 1))) (xs.drop k) := fun j u hj => by
  rw [List.getElem?_drop] at hj
  obtain ⟨ad, e, hb, hcell⟩ := h _ u hj
  have hlt : k + j < xs.length := by
    rcases Nat.lt_or_ge (k + j) xs.length with h' | h'
    · exact h'
    · rw [List.getElem?_eq_none h'] at hj; cases hj
  rw [if_neg (by omega), e]
  exact ⟨ad.add (k * 1), rfl, by rw [blk_add]; exact hb, by rw [add_twice, Nat.mul_one]; exact hcell⟩
theorem Cs.take (h : Cs w B A xs) (k : Nat) : Cs w B A (xs.take k) := fun j u hj => by
  rw [List.getElem?_take] at hj
  split at hj
  · exact h j u hj
  · cases hj
theorem Cs.of_own {N n c : Nat} {e : TypeId} (h : w.ownsRow N e 1 (.slice A n c) n xs) : Cs w w.heap.size A xs := fun j u hj => by
  have hn : 0 < n := by
    rcases Nat.eq_zero_or_pos n with h0 | h0
    · have := h.1
      rw [h0, Nat.zero_mul] at this
      rw [List.eq_nil_of_length_eq_zero this] at hj
      simp at hj
    · exact h0
  obtain ⟨g, cap, hv, _, hlt⟩ := h.form hn
  have hA : A = some ⟨g, 0, none⟩ := by injection hv
  subst hA
  exact ⟨_, rfl, hlt, h.cells (g := g) rfl j u hj⟩
end
/-- what owns, and what type its block has. -/
theorem own_ne_own {w : World} {N N' : Nat} {e e' : TypeId} {n n' : Nat} {v v' : Value} {xs xs' : List Value} (h : w.ownsRow N e 1 v n xs) (h' : w.ownsRow N' e' 1 v' n' xs') (hne : e ≠ e') : v.ownBlock = none ∨ v.ownBlock ≠ v'.ownBlock := by
  rcases h.2 with ⟨rfl, _⟩ | ⟨g, cap, cur, rfl, _, hh, _⟩
  · exact .inl rfl
  · right
    rcases h'.2 with ⟨rfl, _⟩ | ⟨g', cap', cur', rfl, _, hh', _⟩
    · simp [Value.ownBlock]
    · intro he
      have : g = g' := by simpa [Value.ownBlock] using he
      subst this
      rw [hh] at hh'
      injection hh' with hh'
      injection hh' with _ ht
      exact hne ht
theorem own_kept {w w' : World} {N B n : Nat} {e : TypeId} {v : Value} {xs : List Value} (h : w.ownsRow N e 1 v n xs) (hb : Below B w w') (hB : w.heap.size ≤ B) : w'.ownsRow N e 1 v n xs := by
  refine ⟨h.1, ?_⟩
  rcases h.2 with hn | ⟨g, cap, cur, rfl, hn, hh, rest⟩
  · exact .inl hn
  · refine .inr ⟨g, cap, cur, rfl, hn, ?_, rest⟩
    rw [hb.block g (Nat.lt_of_lt_of_le (Array.getElem?_eq_some_iff.1 hh).1 hB)]
    exact hh
theorem own_slice {w : World} {N n : Nat} {e : TypeId} {v : Value} {xs : List Value} (h : w.ownsRow N e 1 v n xs) : ∃ A c, v = .slice A n c ∧ n ≤ c ∧ c ≤ maxLen := by
  rcases h.2 with ⟨rfl, rfl⟩ | ⟨g, cap, cur, rfl, _, _, h1, h2, _⟩
  · exact ⟨none, 0, rfl, Nat.le_refl _, Nat.zero_le _⟩
  · exact ⟨_, _, rfl, h1, h2⟩
theorem own_more {w : World} {N M n : Nat} {e : TypeId} {v : Value} {xs : List Value} (h : w.ownsRow N e 1 v n xs) (hM : M ≤ N) : w.ownsRow M e 1 v n xs := by
  refine ⟨h.1, ?_⟩
  rcases h.2 with hn | ⟨g, cap, cur, rfl, hn, rest⟩
  · exact .inl hn
  · exact .inr ⟨g, cap, cur, rfl, by omega, rest⟩
/-- bytes as cells. -/
def bv (l : List UInt8) : List Value := l.map fun b => Value.int .u8 (b.toNat : Int)
theorem bv_length (l : List UInt8) : (bv l).length = l.length := by simp [bv]
theorem bv_get (l : List UInt8) (k : Nat) (h : k < l.length) : (bv l)[k]? = some (.int .u8 ((l.getD k 0).toNat : Int)) := by
  simp [bv, List.getD, h]
theorem bv_drop (l : List UInt8) (k : Nat) : (bv l).drop k = bv (l.drop k) := by simp [bv]
theorem bv_take (l : List UInt8) (k : Nat) : (bv l).take k = bv (l.take k) := by simp [bv]
theorem bv_append (a b : List UInt8) : bv (a ++ b) = bv a ++ bv b := by simp [bv]
theorem bv_one (l : List UInt8) : ∀ u ∈ bv l, u.oneCell' = true := by
  intro u hu
  simp only [bv, List.mem_map] at hu
  obtain ⟨b, _, rfl⟩ := hu
  rfl
/-- the slice at A reads as these bytes. -/
def Bts (w : World) (B : Nat) (A : Option Addr) (l : List UInt8) : Prop := Cs w B A (bv l)
variable {w w' : World} {B B' : Nat} {A : Option Addr} {l : List UInt8}
theorem Bts.at_ (h : Bts w B A l) {k : Nat} (hk : k < l.length) : ∃ ad, A = some ad ∧ ad.block < B ∧ w.cell? (ad.add k) = some (.int .u8 ((l.getD k 0).toNat : Int)) := h k _ (bv_get l k hk)
theorem Bts.below (h : Bts w B A l) (hb : Below B w w') : Bts w' B A l := Cs.below h hb
theorem Bts.more (h : Bts w B A l) (hB : B ≤ B') : Bts w B' A l := Cs.more h hB
theorem Bts.take (h : Bts w B A l) (k : Nat) : Bts w B A (l.take k) := by unfold Bts; rw [← bv_take]; exact Cs.take h k
theorem Bts.drop (h : Bts w B A l) {k : Nat} (c : Nat) (hc : l.length ≤ c) : Bts w B (if c = k then A else A.map (·.add (k * 1))) (l.drop k) := by
  unfold Bts; rw [← bv_drop]; exact Cs.drop h c (by rw [bv_length]; exact hc)
theorem Bts.of_own {N n c : Nat} {e : TypeId} (h : w.ownsRow N e 1 (.slice A n c) n (bv l)) : Bts w w.heap.size A l := Cs.of_own h
/-- the string of these bytes. -/
def str (l : List UInt8) : ByteArray := ⟨l.toArray⟩
theorem str_nums (l : List UInt8) : strOfNums (l.map fun b => (b.toNat : Int)) = str l := by
  simp only [strOfNums, str, List.map_map]
  congr 1
  rw [show ((fun n : Int => UInt8.ofNat n.toNat) ∘ fun b : UInt8 => (b.toNat : Int)) = id from by funext b; simp]
  simp
theorem str_inj {a b : List UInt8} : str a = str b ↔ a = b := by simp [str]
theorem run_str (P : Program) {src dst e : TypeId} (hs : P.underlying src = some (.slice e)) (he : P.underlying e = some (.int .u8)) (hd : P.underlying dst = some .string) (cap : Nat) (h : Bts w B A l) :
    (convert src dst (.slice A l.length cap)).run P w = .ok (.string (str l)) w := by
  have hl : ∀ ad, (∀ j u, (bv l)[j]? = some u → w.cell? (ad.add j) = some u) → (loadCells ad l.length).run P w = .ok ((l.map fun b => (b.toNat : Int)).map (Value.int .u8)).toArray w := fun ad hc => by
    have := run_loadCells_list (P := P) w ad (bv l) hc
    rw [bv_length] at this
    rw [this]
    simp [bv]
  rw [run_convert_bytes_string w src dst e A l.length cap hs he hd]
  rcases A with _ | ad
  · have hl0 : l = [] := by
      rcases l with _ | ⟨b, l⟩
      · rfl
      · obtain ⟨ad, e, _⟩ := h 0 _ rfl
        cases e
    subst hl0
    simp [Conv.bytesToString]
    rfl
  · have hc : ∀ j u, (bv l)[j]? = some u → w.cell? (ad.add j) = some u := fun j u hj => by
      obtain ⟨ad', e, _, hc⟩ := h j u hj
      injection e with e
      subst e
      exact hc
    rw [run_bytesToString w ad _ cap _ (hl ad hc), foldl_push_bytes, ← str_nums]
    simp [strOfNums, ByteArray.empty, ByteArray.emptyWithCapacity]
    rfl
/-- append onto a row of the call's own, whatever the source is. -/
theorem run_app {P : Program} (w : World) {N : Nat} {t ty e : TypeId} {i : TypeInfo} {z : Value} {bytes : Nat} (ht : P.underlying t = some (.slice e)) (hi : P.info? e = some i) (hz : i.zero = some z)
    (hsize : i.size = 1) (hby : i.bytes = bytes) (hzs : z.cells.size = 1) {v : Value} {n : Nat} {xs : List Value} (hown : w.ownsRow N e 1 v n xs)
    {B : Nat} {A : Option Addr} {m c : Nat} {news : List Value} (hr : Cs w B A news) (hl : news.length = m) (h1 : ∀ u ∈ news, u.oneCell' = true) (h63 : n + m ≤ 1000000000) (hbytes : bytes ≤ 24) (hN : N ≤ w.heap.size) :
    ∃ v' w', (Builtin.append_ #[t, t] ty #[v, .slice A m c]).run P w = .ok v' w' ∧ w'.ownsRow N e 1 v' (n + m) (xs ++ news) ∧ w.grownBy w' v.ownBlock := by
  rcases A with _ | ad
  · have hn : news = [] := by
      rcases news with _ | ⟨b, l⟩
      · rfl
      · obtain ⟨ad, e, _⟩ := hr 0 _ rfl
        cases e
    subst hn
    have hm : m = 0 := by simpa using hl.symm
    subst hm
    refine ⟨v, w, ?_, by simpa using hown, ⟨rfl, rfl, rfl, Nat.le_refl _, fun _ _ _ => rfl⟩⟩
    rcases hown.2 with ⟨rfl, rfl⟩ | ⟨g, cap, cur, rfl, _, _, hnc, _⟩
    · simp [Builtin.append_, run_underlying ht, sizeOf, typeInfo, hi, Builtin.lenOf, Builtin.firstCells]
    · simp [Builtin.append_, run_underlying ht, sizeOf, typeInfo, hi, Builtin.lenOf, Builtin.firstCells, hnc, storeCells]
  · have hcells : ∀ j u, news[j]? = some u → w.cell? (ad.add j) = some u := fun j u hj => by
      obtain ⟨ad', e, _, hc⟩ := hr j u hj
      injection e with e
      subst e
      exact hc
    obtain ⟨v', w', hrun, h2, h3, _⟩ := run_append_own_at (P := P) w N t ty e i z 1 bytes ht hi hz hsize hby hzs (by omega) v n xs hown ad m c news (by rw [hl, Nat.mul_one]) hcells h1 (by unfold maxLen; omega)
      (Nat.le_trans (Nat.mul_le_mul h63 hbytes) (by decide)) hN
    exact ⟨v', w', hrun, h2, h3⟩
theorem wp_app {P : Program} {w : World} {o : Oper} {a : Act} {K : Act → World → Prop} {Q : Exit → Act → World → Prop} (s x : Operand) {t : TypeId}
    (ho : o.op = .call { callee := .builtin .append, args := #[s, x], argTypes := #[t, t] })
    {N : Nat} {e : TypeId} {i : TypeInfo} {z : Value} {bytes : Nat} (ht : P.underlying t = some (.slice e)) (hi : P.info? e = some i) (hz : i.zero = some z)
    (hsize : i.size = 1) (hby : i.bytes = bytes) (hzs : z.cells.size = 1) {v : Value} {n : Nat} {xs : List Value} (hs : a.eval s = v) (hown : w.ownsRow N e 1 v n xs)
    {B : Nat} {A : Option Addr} {m c : Nat} {news : List Value} (hx : a.eval x = .slice A m c) (hr : Cs w B A news) (hl : news.length = m) (h1 : ∀ u ∈ news, u.oneCell' = true) (h63 : n + m ≤ 1000000000) (hbytes : bytes ≤ 24) (hN : N ≤ w.heap.size)
    (h : ∀ v' w', w'.ownsRow N e 1 v' (n + m) (xs ++ news) → w.grownBy w' v.ownBlock → K (a.put o.dst v') w') : o.wp P a w K Q := by
  obtain ⟨v', w', hrun, h2, h3⟩ := run_app (P := P) w (ty := o.type) ht hi hz hsize hby hzs hown hr hl h1 h63 hbytes hN (c := c)
  unfold Oper.wp execOp
  simp only [ho, resolve, invoke, builtin, Sem.run_bind, Sem.run_pure, Result.andThen_ok, List.map_toArray, List.map_cons, List.map_nil, hs, hx, hrun]
  exact h v' w' h2 h3
theorem info5 : (Try.prog.info? 5).map (fun i => (i.zero, i.size, i.bytes)) = some (some (.int .u8 0), 1, 1) := by kernel_rfl
/-- a slice of slices reads as these lists of bytes. -/
def Rws (w : World) (B : Nat) (A : Option Addr) (ll : List (List UInt8)) : Prop :=
  ∀ k r, ll[k]? = some r → ∃ ad Ak ck, A = some ad ∧ ad.block < B ∧ w.cell? (ad.add k) = some (.slice Ak r.length ck) ∧ r.length ≤ ck ∧ ck ≤ maxLen ∧ Bts w B Ak r
section
variable {w w' : World} {B B' : Nat} {A : Option Addr} {ll : List (List UInt8)}
theorem Rws.at_ (h : Rws w B A ll) {k : Nat} (hk : k < ll.length) : ∃ ad Ak ck, A = some ad ∧ ad.block < B ∧ w.cell? (ad.add k) = some (.slice Ak (ll.getD k []).length ck) ∧ (ll.getD k []).length ≤ ck ∧ ck ≤ maxLen ∧ Bts w B Ak (ll.getD k []) :=
  h k _ (by simp [List.getD, hk])
theorem Rws.below (h : Rws w B A ll) (hb : Below B w w') : Rws w' B A ll := fun k r hk => by
  obtain ⟨ad, Ak, ck, e, h1, h2, h3, h4, h5⟩ := h k r hk
  exact ⟨ad, Ak, ck, e, h1, (hb.cell (by rw [blk_add]; exact h1)).trans h2, h3, h4, h5.below hb⟩
theorem Rws.more (h : Rws w B A ll) (hB : B ≤ B') : Rws w B' A ll := fun k r hk => by
  obtain ⟨ad, Ak, ck, e, h1, h2, h3, h4, h5⟩ := h k r hk
  exact ⟨ad, Ak, ck, e, by omega, h2, h3, h4, h5.more hB⟩
theorem Rws.take (h : Rws w B A ll) (n : Nat) : Rws w B A (ll.take n) := fun k r hk => by
  rw [List.getElem?_take] at hk
  split at hk
  · exact h k r hk
  · cases hk
end
theorem ret_b {a b : Bool} (h : a = b) : Ending.returned (.bool a) = .returned (.bool b) := by rw [h]
theorem ret_u32 {a b : Nat} (h : a = b) : Ending.returned (.int .u32 a) = .returned (.int .u32 b) := by rw [h]
theorem ret_u {a b : Int} (h : a = b) : Ending.returned (.int .u32 a) = .returned (.int .u32 b) := by rw [h]
theorem crc_bits (l : List UInt8) : bits .xor .u32 IntKind.u32.max (crcReg l : Nat) = (crc l : Nat) := u32_xor_nat 4294967295 _ (by omega) (crcReg_lt l)
theorem take_snoc_ (l : List UInt8) (k : Nat) (h : k < l.length) : l.take (k + 1) = l.take k ++ [l.getD k 0] := by
  rw [List.take_succ_eq_append_getElem h, List.getD, List.getElem?_eq_getElem h]; rfl
theorem crcReg_next (l : List UInt8) (k : Nat) (h : k < l.length) : crcReg (l.take (k + 1)) = crcByte (crcReg (l.take k)) (l.getD k 0) := by
  rw [take_snoc_ l k h, crcReg_snoc]
theorem crc_end (l : List UInt8) (k : Nat) (h : l.length ≤ k) : crcReg (l.take k) = crcReg l := by rw [List.take_of_length_le h]
theorem add_0 (a : Addr) : a.add 0 = a := rfl
theorem drewN_below (w : World) (B n : Nat) : Below B w (w.drewN n) := below_drewN (Below.refl B w) n
theorem Bts.drop_eq {w : World} {B : Nat} {ad : Addr} {l : List UInt8} (h : Bts w B (some ad) l) (k : Nat) : Bts w B (some (ad.add k)) (l.drop k) := by
  have := h.drop (k := k) (l.length + k + 1) (by omega)
  rw [if_neg (by omega), Nat.mul_one] at this
  exact this
theorem Bts.drop_all {w : World} {B : Nat} {A A' : Option Addr} {l : List UInt8} (_ : Bts w B A l) (k : Nat) (hk : l.length ≤ k) : Bts w B A' (l.drop k) := by
  rw [List.drop_of_length_le hk]
  exact Cs.nil
theorem cutN_yes {l : List UInt8} {n : Nat} (h : cutN l = some n) : n = num4 l ∧ 8 + n ≤ l.length ∧ n ≤ 1000000 ∧ crc ((l.drop 8).take n) = num4 (l.drop 4) := by
  unfold cutN at h
  split at h
  · cases h
  · split at h
    · cases h
    · split at h
      · cases h
      · split at h
        · rename_i h4
          injection h with h
          subst h
          exact ⟨rfl, by omega, by omega, h4⟩
        · cases h
theorem byte_of (n : Nat) : ((UInt8.ofNat n).toNat : Int) = (n : Int) % 256 := by simp
/-- a slice value that owns these bytes. -/
def Own5 (w : World) (N : Nat) (v : Value) (l : List UInt8) : Prop := w.ownsRow N 5 1 v l.length (bv l)
def Gives5 (W : World) (N : Nat) (l : List UInt8) (e : Ending) (w' : World) : Prop := ∃ v, e = .returned v ∧ Own5 w' N v l ∧ Below N W w'
theorem Own5.new (w : World) (l : List UInt8) (cs : Array Value) (h : cs.toList = bv l) (hm : l.length ≤ maxLen) : Own5 (w.alloc (.cells cs 5)) w.heap.size (.slice (some ⟨w.heap.size, 0, none⟩) l.length l.length) l := by
  unfold Own5
  rw [← h]
  exact World.ownsRow_lit w cs l.length (Nat.le_refl _) hm (by rw [Nat.mul_one, ← Array.length_toList, h, bv_length])
theorem Own5.bts {w : World} {N n : Nat} {A : Option Addr} {c : Nat} {l : List UInt8} (h : Own5 w N (.slice A n c) l) : Bts w w.heap.size A l := by
  obtain ⟨A', c', e, _⟩ := own_slice h
  have : n = l.length := by injection e
  subst this
  exact Bts.of_own h
theorem grown_below {N : Nat} {W w w' : World} {n : Nat} {e : TypeId} {v : Value} {xs : List Value} (hb : Below N W w) (hN : N ≤ W.heap.size) (hown : w.ownsRow N e 1 v n xs) (hg : w.grownBy w' v.ownBlock) : Below N W w' :=
  hb.grown hg (Nat.le_trans hN hb.size) (fun _ hk => (hown.lt _ hk).1)
theorem le4_next (n k : Nat) (h : k < 4) : (le4 n).take (k + 1) = (le4 n).take k ++ [UInt8.ofNat (n / 256 ^ k)] := by
  obtain rfl | rfl | rfl | rfl : k = 0 ∨ k = 1 ∨ k = 2 ∨ k = 3 := by omega
  all_goals simp [le4]
theorem shr_next (n k : Nat) : n / 256 ^ (k + 1) = n / 256 ^ k / 256 := by rw [Nat.pow_succ, Nat.div_div_eq_div_mul]
theorem Own5.nil (w : World) (N : Nat) : Own5 w N (.slice none 0 0) [] := World.ownsRow_nil w N 5 1
theorem bts_none {w : World} {B : Nat} {l : List UInt8} (h : Bts w B none l) : l = [] := by
  rcases l with _ | ⟨b, l⟩
  · rfl
  · obtain ⟨ad, e, _⟩ := h 0 _ rfl
    cases e
theorem wr_one (l : List UInt8) : wr [l] = rec1 l := by simp [wr]
theorem Bts.newm (w : World) (l : List UInt8) (C : Array Value) (fr : Nat × Nat) (h : C.toList = bv l) : Bts (w.alloc (.cells C 5 fr)) (w.heap.size + 1) (some ⟨w.heap.size, 0, none⟩) l := fun j u hj =>
  ⟨_, rfl, by simp, World.news_of_block (heap_alloc_new w _) j u (by rw [h]; exact hj)⟩
theorem Rws.drewN {w : World} {B : Nat} {A : Option Addr} {ll : List (List UInt8)} (h : Rws w B A ll) (n : Nat) : Rws (w.drewN n) B A ll := h.below (drewN_below w B n)
def sliceLen : Value → Nat
  | .slice _ n _ => n
  | _ => 0
def RestIs (W : World) (B : Nat) (x : Value) (m : List UInt8) : Prop := ∃ A c, x = .slice A m.length c ∧ Bts W B A m ∧ m.length ≤ c ∧ c ≤ maxLen
theorem recs_len (l : List UInt8) : (recs l).length ≤ l.length := by
  have h : ∀ ll : List (List UInt8), ll.length ≤ took ll := by
    intro ll
    induction ll with
    | nil => simp
    | cons r ll ih => rw [took_cons, List.length_cons]; omega
  exact Nat.le_trans (h _) (took_le l)
theorem cut_took {m : List UInt8} {n : Nat} (h : cutN m = some n) : ((m.drop 8).take n).length = n ∧ (m.drop (8 + n)).length + (8 + n) = m.length := by
  have := (cutN_yes h).2.1
  constructor
  · simp; omega
  · simp; omega
def Wrote (W : World) (N : Nat) (l : List UInt8) (e : Ending) (w' : World) : Prop := ∃ v, e = .returned (.tuple #[v, .int .i64 0]) ∧ Own5 w' N v l ∧ Below N W w'
theorem wr_next (ll : List (List UInt8)) (k : Nat) (h : k < ll.length) : wr (ll.take (k + 1)) = wr (ll.take k) ++ le4 (ll.getD k []).length ++ le4 (crc (ll.getD k [])) ++ ll.getD k [] := by
  rw [List.take_succ_eq_append_getElem h, wr_append, List.getD, List.getElem?_eq_getElem h]
  simp [wr, rec1]
theorem wr_len (ll : List (List UInt8)) (k : Nat) : (wr (ll.take k)).length ≤ took ll := by
  rw [wr_length]
  have : took ll = took (ll.take k) + took (ll.drop k) := by rw [← took_append, List.take_append_drop]
  omega
end Go.Proofs.Ytkpolakdamiiiaa
