/- Lists of sides in memory: laid, appended, gone over backwards. Conditions: as stated at each. -/
import Derived.Test.YtgjepkcdacgieaaDoorMkBackS
namespace Go.Proofs.YtgjepkcdacgieaaDoor
open Go.RowKit Go.Shelf Go
/-- a side's cells. -/
def sv (s : List UInt8 × Bool) : List Value := bv s.1 ++ [.bool s.2]
def svs (L : List (List UInt8 × Bool)) : List Value := L.flatMap sv
def Sds (L : List (List UInt8 × Bool)) : Prop := ∀ x ∈ L, x.1.length = 32
theorem Sds.nil : Sds [] := fun _ h => by cases h
theorem Sds.one {s : List UInt8} {b : Bool} (h : s.length = 32) : Sds [(s, b)] := fun y hy => by
  rw [List.mem_singleton] at hy
  rw [hy]
  exact h
theorem Sds.append {l m : List (List UInt8 × Bool)} (h : Sds l) (h' : Sds m) : Sds (l ++ m) := fun x hx => by
  rw [List.mem_append] at hx
  exact hx.elim (h x) (h' x)
theorem sv_length {s : List UInt8 × Bool} (h : s.1.length = 32) : (sv s).length = 33 := by simp [sv, bv_length, h]
theorem sv_one (s : List UInt8 × Bool) : ∀ u ∈ sv s, u.oneCell' = true := by
  intro u hu
  rw [sv, List.mem_append, List.mem_singleton] at hu
  rcases hu with hu | rfl
  · exact bv_one _ u hu
  · rfl
theorem sv_all (s : List UInt8 × Bool) : (sv s).toArray.all (·.oneCell') = true := Array.all_eq_true_iff_forall_mem.2 fun u hu => sv_one s u (by simpa using hu)
theorem svs_length : ∀ {L : List (List UInt8 × Bool)}, Sds L → (svs L).length = 33 * L.length
  | [], _ => rfl
  | x :: L, h => by
    rw [svs, List.flatMap_cons, List.length_append, sv_length (h x (by simp)), List.length_cons]
    have := svs_length (L := L) (fun y hy => h y (by simp [hy]))
    rw [svs] at this
    omega
theorem svs_append (a b : List (List UInt8 × Bool)) : svs (a ++ b) = svs a ++ svs b := by simp [svs]
theorem svs_single (s : List UInt8 × Bool) : svs [s] = sv s := by simp [svs]
theorem info56 : (Tryd.prog.info? 56).map (fun i => (i.zero, i.size, i.bytes)) = some (some (.agg (sv (List.replicate 32 0, false)).toArray), 33, 33) := by kernel_rfl
theorem isz56s {s : List UInt8 × Bool} (h : s.1.length = 32) : (Tryd.prog.info? 56).map (·.size) = some (sv s).length := by rw [sv_length h]; kernel_rfl
theorem isz56a {s : List UInt8 × Bool} (h : s.1.length = 32) : (Tryd.prog.info? 56).map (·.size) = some (sv s).toArray.size := by rw [List.size_toArray]; exact isz56s h
theorem fill_one (z : Nat) (X cs : Array Value) (hX : X.size = z) (h : cs.size = z) : Instr.fill (fun i => some (i * z, z)) cs [(0, .agg X)] = some X := by
  show (if (decide (¬ X.size = z) || decide (0 * z + X.size > cs.size)) = true then none else some (X.zipIdx.foldl (fun (cs : Array Value) (p : Value × Nat) => cs.setIfInBounds (0 * z + p.2) p.1) cs)) = _
  rw [if_neg (by simp [hX, h])]
  congr 1
  apply Array.toList_inj.1
  rw [set_all (0 * z) X cs (by omega)]
  simp [hX, ← h]
theorem run_buildD1 {s : List UInt8 × Bool} (hs : s.1.length = 32) (w : World) : (Instr.buildSlice 49 1 #[(0, .agg (sv s).toArray)]).run Tryd.prog w = .ok (.slice (some ⟨w.heap.size, 0, none⟩) 1 1) (w.alloc (.cells (sv s).toArray 56)) := by
  obtain ⟨i, hi, hz, h0, h2⟩ := info_parts info56
  have key : ∀ cs : Array Value, cs.size = 33 → Instr.fill (fun i => some (i * 33, 33)) cs [(0, Value.agg (sv s).toArray)] = some (sv s).toArray := fun cs hcs => fill_one 33 _ cs (by rw [List.size_toArray, sv_length hs]) hcs
  simp [Instr.buildSlice, Sem.run_bind, run_underlying Tryd.underlying49, sizeOf, typeInfo, hi, h0, zeroValue, hz, Value.cells]
  rw [key _ (by simp)]
  simp [newRow]
theorem run_build56_ (a0 a1 a2 a3 a4 a5 a6 a7 a8 a9 a10 a11 a12 a13 a14 a15 a16 a17 a18 a19 a20 a21 a22 a23 a24 a25 a26 a27 a28 a29 a30 a31 : UInt8) (b : Bool) (w : World) : (Instr.build 56 #[(0, .agg (bv [a0, a1, a2, a3, a4, a5, a6, a7, a8, a9, a10, a11, a12, a13, a14, a15, a16, a17, a18, a19, a20, a21, a22, a23, a24, a25, a26, a27, a28, a29, a30, a31]).toArray), (1, .bool b)]).run Tryd.prog w = .ok (.agg (sv ([a0, a1, a2, a3, a4, a5, a6, a7, a8, a9, a10, a11, a12, a13, a14, a15, a16, a17, a18, a19, a20, a21, a22, a23, a24, a25, a26, a27, a28, a29, a30, a31], b)).toArray) w := by kernel_rfl
theorem run_build56 {s : List UInt8} (b : Bool) (hs : s.length = 32) (w : World) : (Instr.build 56 #[(0, .agg (bv s).toArray), (1, .bool b)]).run Tryd.prog w = .ok (.agg (sv (s, b)).toArray) w := by
  match s, hs with
  | [a0, a1, a2, a3, a4, a5, a6, a7, a8, a9, a10, a11, a12, a13, a14, a15, a16, a17, a18, a19, a20, a21, a22, a23, a24, a25, a26, a27, a28, a29, a30, a31], _ => exact run_build56_ a0 a1 a2 a3 a4 a5 a6 a7 a8 a9 a10 a11 a12 a13 a14 a15 a16 a17 a18 a19 a20 a21 a22 a23 a24 a25 a26 a27 a28 a29 a30 a31 b w
/-- a row of sides of the call's own. -/
def OwnD (w : World) (N : Nat) (v : Value) (L : List (List UInt8 × Bool)) : Prop := Sds L ∧ w.ownsRow N 56 33 v L.length (svs L)
theorem OwnD.nil (w : World) (N : Nat) : OwnD w N (.slice none 0 0) [] := ⟨Sds.nil, World.ownsRow_nil w N 56 33⟩
theorem OwnD.kept {w w' : World} {N B : Nat} {v : Value} {L : List (List UInt8 × Bool)} (h : OwnD w N v L) (hb : Below B w w') (hB : w.heap.size ≤ B) : OwnD w' N v L := ⟨h.1, ownsRow_kept h.2 hb hB⟩
theorem OwnD.more {w : World} {N M : Nat} {v : Value} {L : List (List UInt8 × Bool)} (h : OwnD w N v L) (hM : M ≤ N) : OwnD w M v L := ⟨h.1, ownsRow_more h.2 hM⟩
theorem OwnD.low {w : World} {N : Nat} {v : Value} {L : List (List UInt8 × Bool)} (h : OwnD w N v L) : ∀ k, v.ownBlock = some k → N ≤ k := fun k hk => (h.2.lt k hk).1
theorem OwnD.slice {w : World} {N : Nat} {v : Value} {L : List (List UInt8 × Bool)} (h : OwnD w N v L) : ∃ A c, v = .slice A L.length c ∧ L.length ≤ c ∧ c ≤ maxLen := by
  rcases h.2.2 with ⟨rfl, h0⟩ | ⟨g, cap, cur, rfl, _, _, h1, h2, _⟩
  · exact ⟨none, 0, by rw [h0], by omega, Nat.zero_le _⟩
  · exact ⟨_, _, rfl, h1, h2⟩
/-- the slice at A reads as these sides. -/
def Ds (w : World) (B : Nat) (A : Option Addr) (L : List (List UInt8 × Bool)) : Prop :=
  Sds L ∧ (L = [] ∨ ∃ g o, A = some ⟨g, o, none⟩ ∧ g < B ∧ w.rangeAt g o (svs L))
theorem Ds.below {w w' : World} {B : Nat} {A : Option Addr} {L : List (List UInt8 × Bool)} (h : Ds w B A L) (hb : Below B w w') : Ds w' B A L := by
  refine ⟨h.1, ?_⟩
  rcases h.2 with e | ⟨g, o, e, hg, hr⟩
  · exact .inl e
  · exact .inr ⟨g, o, e, hg, range_below hr hb hg⟩
theorem Ds.more {w : World} {B B' : Nat} {A : Option Addr} {L : List (List UInt8 × Bool)} (h : Ds w B A L) (hB : B ≤ B') : Ds w B' A L := by
  refine ⟨h.1, ?_⟩
  rcases h.2 with e | ⟨g, o, e, hg, hr⟩
  · exact .inl e
  · exact .inr ⟨g, o, e, by omega, hr⟩
theorem Ds.at_ {w : World} {B : Nat} {A : Option Addr} {L : List (List UInt8 × Bool)} (h : Ds w B A L) {k : Nat} (hk : k < L.length) : ∃ g o, A = some ⟨g, o, none⟩ ∧ g < B ∧ w.rangeAt g (o + k * 33) (sv (L.getD k ([], false))) := by
  rcases h.2 with rfl | ⟨g, o, rfl, hg, hr⟩
  · simp at hk
  · refine ⟨g, o, rfl, hg, ?_⟩
    have e : L = L.take k ++ ([L.getD k ([], false)] ++ L.drop (k + 1)) := by
      rw [List.getD_eq_getElem?_getD, List.getElem?_eq_getElem hk]
      simp
    rw [e, svs_append, svs_append, svs_single] at hr
    refine range_sub (c := svs (L.drop (k + 1))) ?_ ?_ (a := svs (L.take k))
    · exact hr
    · rw [svs_length (fun x hx => h.1 x (List.mem_of_mem_take hx)), List.length_take]
      omega
theorem Ds.getD {L : List (List UInt8 × Bool)} (h : Sds L) {k : Nat} (hk : k < L.length) : (L.getD k ([], false)).1.length = 32 := by
  rw [List.getD_eq_getElem?_getD, List.getElem?_eq_getElem hk]
  exact h _ (List.getElem_mem hk)
theorem OwnD.ds {w : World} {N n c : Nat} {A : Option Addr} {L : List (List UInt8 × Bool)} (h : OwnD w N (.slice A n c) L) : Ds w w.heap.size A L := by
  refine ⟨h.1, ?_⟩
  rcases h.2.2 with ⟨_, h0⟩ | ⟨g, cap, cur, e, _, hh, h1, h2, h3, ht⟩
  · exact .inl (List.eq_nil_of_length_eq_zero h0)
  · injection e with e1 _ _
    refine .inr ⟨g, 0, e1, (Array.getElem?_eq_some_iff.1 hh).1, fun j v hj => ?_⟩
    rw [Nat.zero_add, cell_of_row w g j cur 56 (0, 0) hh, ← Array.getElem?_toList]
    have hlt : j < L.length * 33 := by
      have := (List.getElem?_eq_some_iff.1 hj).1
      rw [svs_length h.1] at this
      omega
    rw [← ht, List.getElem?_take_of_lt hlt] at hj
    exact hj
/-- one side more. -/
theorem run_appD {w : World} (ty : TypeId) {N : Nat} {v : Value} {L : List (List UInt8 × Bool)} {s : List UInt8 × Bool} {g o c : Nat} (hown : OwnD w N v L) (hs : s.1.length = 32) (hc : w.rangeAt g o (sv s)) (hl : L.length + 1 ≤ 1000000000) (hN : N ≤ w.heap.size) :
    ∃ v' w', (Builtin.append_ #[49, 49] ty #[v, .slice (some ⟨g, o, none⟩) 1 c]).run Tryd.prog w = .ok v' w' ∧ OwnD w' N v' (L ++ [s]) ∧ w.grownBy w' v.ownBlock := by
  obtain ⟨i, hi, hz, h0, h1⟩ := info_parts info56
  obtain ⟨v', w', hrun, h2, h3, _⟩ := run_append_own_at (P := Tryd.prog) w N 49 ty 56 i _ 33 33 Tryd.underlying49 hi hz h0 h1 (by kernel_rfl) (by omega) v L.length (svs L) hown.2 ⟨g, o, none⟩ 1 c (sv s) (by rw [sv_length hs])
    (fun j u hj => by rw [add_at]; exact hc j u hj) (sv_one s) (by unfold maxLen; omega) (by omega) hN
  refine ⟨v', w', hrun, ⟨hown.1.append (fun x hx => by rw [List.mem_singleton] at hx; rw [hx]; exact hs), ?_⟩, h3⟩
  rw [List.length_append, svs_append, svs_single]
  simpa using h2
end Go.Proofs.YtgjepkcdacgieaaDoor
