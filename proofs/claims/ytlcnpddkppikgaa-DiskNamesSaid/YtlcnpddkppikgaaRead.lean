/- Read, and the iterator over the one name. Conditions: as stated at each. -/
import Derived.Test.YtlcnpddkppikgaaSettled
namespace Go.Proofs.Ytlcnpddkppikgaa
open Go.RowKit Go
theorem own_below {w w' : World} {base n : Nat} {e : TypeId} {v : Value} {xs : List Value} (h : w.ownsRow base e 1 v n xs) (k : Below w.heap.size w w') : w'.ownsRow base e 1 v n xs :=
  ownsRow_tn h (Tn.of_below (p := fun _ => False) k) (fun _ _ h => h)
theorem own_base_le {w : World} {base base' n : Nat} {e : TypeId} {v : Value} {xs : List Value} (h : w.ownsRow base e 1 v n xs) (hb : base' ≤ base) : w.ownsRow base' e 1 v n xs := by
  refine ⟨h.1, ?_⟩
  rcases h.2 with hn | ⟨g, cap, cur, rfl, hg, rest⟩
  · exact .inl hn
  · exact .inr ⟨g, cap, cur, rfl, Nat.le_trans hb hg, rest⟩
set_option maxHeartbeats 800000 in
theorem read_any (W : World) (N D M : Nat) (r x l : Value) (clk born : Nat) (g n c : Nat) (s : Int) (xs : List Value)
    (hD : BlkIs W D 38 #[.map (some M), r, x, l, .bool false]) (hM : W.heap[M]? = some (.map #[ent (.agg #[.slice (some ⟨g, 0, none⟩) n c, .int .i64 s]) born] clk))
    (hown : W.ownsRow N 5 1 (.slice (some ⟨g, 0, none⟩) n c) n xs) (h1 : ∀ u ∈ xs, u.oneCell' = true) (hk0 : 0 < n) (hn : n ≤ 500) :
    Calls Try.prog 13 #[.pointer (some ⟨D, 0, none⟩), .string nA] W fun e w' => ∃ g' c', e = .returned (.tuple #[.slice (some ⟨g', 0, none⟩) n c', .int .i64 0]) ∧
      w'.ownsRow W.heap.size 5 1 (.slice (some ⟨g', 0, none⟩) n c') n xs ∧ Below W.heap.size W w' := by
  have hx0 : ∀ w (v u : Value), (Instr.extract (.tuple #[v, u]) 0).run Try.prog w = .ok v w := fun _ _ _ => by kernel_rfl
  have hx1 : ∀ w (v u : Value), (Instr.extract (.tuple #[v, u]) 1).run Try.prog w = .ok u w := fun _ _ _ => by kernel_rfl
  have hS := BlkIs.new W 9 #[.string nA]
  have kB : Below W.heap.size W (W.alloc (.cells #[.string nA] 9)) := (Below.refl _ W).alloc (Nat.le_refl _) _
  have kD := hD.alloc (.cells #[.string nA] 9)
  have kM := (Below.heap_alloc W (.cells #[.string nA] 9) M (Array.getElem?_eq_some_iff.1 hM).1).trans hM
  have kO := hown.alloc (.cells #[.string nA] 9)
  go_enter Try.func13, Try.ntmps13
  go_wp2_with fail
  refine (find_any _ D M _ r x l clk born _ n c s kD kM hS).mono ?_
  rintro e w1 ⟨rfl, hb⟩
  have jO := own_below kO hb
  have jB : Below W.heap.size W w1 := kB.trans (hb.mono (by simp))
  have jz := jB.size
  clear kO hb kD kM hS kB
  have iO := jO.alloc (.cells #[.slice (some ⟨g, 0, none⟩) n c, .int .i64 s] 41)
  go_wp2_with fail
  refine (clone_any _ N g n c xs iO h1 hk0 hn).mono ?_
  rintro e w2 ⟨g', c', rfl, hO2, hb2⟩
  go_wp2_with fail
  go_ret2
  have hB2 : Below W.heap.size W w2 := (jB.alloc jz _).trans (hb2.mono (by simp; omega))
  exact ⟨g', c', rfl, own_base_le hO2 (by simp; omega), hB2⟩
end Go.Proofs.Ytlcnpddkppikgaa
