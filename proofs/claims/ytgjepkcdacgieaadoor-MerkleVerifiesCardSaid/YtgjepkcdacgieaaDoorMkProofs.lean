/- Contracts of Proof: the program's, the document's. Conditions: as stated at each. -/
import Derived.Test.YtgjepkcdacgieaaDoorMkProof
namespace Go.Proofs.YtgjepkcdacgieaaDoor
open Go.RowKit Go
theorem store_new1 (w : World) (t : TypeId) (v u : Value) (hu : u.oneCell' = true) : (store ⟨w.heap.size, 0, none⟩ u).run Tryd.prog (w.alloc (.cells #[v] t)) = .ok () ((w.alloc (.cells #[v] t)).setCell ⟨w.heap.size, 0, none⟩ u) := by
  have h := BlkIs.new w t #[v]
  have h1 := h.cell 0
  have h2 := h.froz 0
  generalize w.alloc (.cells #[v] t) = W at *
  have h3 : W.cell? ⟨w.heap.size, 0, none⟩ = some v := h1
  rw [run_store _ _ _ _ _ hu]
  go_simp
set_option maxRecDepth 100000 in
set_option maxHeartbeats 1600000 in
theorem proof_yes (A : Option Addr) (n c i : Nat) (L : List (List UInt8)) (w : World) (hn : L.length = n) (hi : i < n) (h9 : n ≤ 100000) (hc : n ≤ c) (hm : c ≤ maxLen) (h : Hs w w.heap.size A L) (hg : Glob w) :
    Calls Tryd.prog 18 #[.slice A n c, .int .i64 i] w fun e w' => ∃ v, e = .returned (.tuple #[v, .int .i64 0]) ∧ OwnH w' w.heap.size v (wayS L i) ∧ Below w.heap.size w w' := by
  have GS := Lib.hid hg.size
  have i1 : ¬ (i : Int) < 0 := by omega
  have i2 : ¬ (n : Int) ≤ (i : Int) := by omega
  have hmf : ∀ (fn : Fn) (first cap : Array Value) (w : World), (Instr.makeFunc fn first cap).run Tryd.prog w = .ok (.func fn first cap) w := fun _ _ _ _ => rfl
  have HS : Hid (∀ W, Below w.heap.size w W → BlkIs W w.heap.size 47 #[.func (.func 34) #[] #[.pointer (some ⟨w.heap.size, 0, none⟩)]] → Calls Tryd.prog 34 #[.slice A n c, .int .i64 i, .pointer (some ⟨w.heap.size, 0, none⟩)] W (WayP W W.heap.size (wayS L i))) := Lib.hid fun W hb hG =>
    proof1_any w.heap.size n A n c i L W (Nat.le_refl _) hn (by omega) hi h9 hc hm ((h.below hb).more hb.size) hG (hg.below hb GS.out)
  have hst := store_new1 w 47 .nilFunc (.func (.func 34) #[] #[.pointer (some ⟨w.heap.size, 0, none⟩)]) rfl
  clear hn h hg
  go_enter Tryd.func18, Tryd.ntmps18
  go_wp2_with fail
  refine (HS.out _ (below1 w _) (BlkIs.new w _ _)).mono ?_
  rintro e w2 ⟨v, rfl, ho, hb2⟩
  have HO := Lib.hid (ho.more (by simp : w.heap.size ≤ _))
  have HB : Hid (Below w.heap.size w w2) := Lib.hid ((below1 w _).trans (hb2.mono (by simp)))
  clear ho hb2 hst
  go_wp2_with fail
  go_ret2
  exact ⟨_, rfl, HO.out, HB.out⟩
set_option maxHeartbeats 800000 in
theorem proof_no (A : Option Addr) (n c : Nat) (i : Int) (w : World) (hi : i < 0 ∨ (n : Int) ≤ i) :
    Calls Tryd.prog 18 #[.slice A n c, .int .i64 i] w fun e w' => e = .returned (.tuple #[.slice none 0 0, .int .i64 1]) ∧ w = w' := by
  by_cases i1 : i < 0
  · clear hi
    go_enter Tryd.func18, Tryd.ntmps18
    go_wp2_with fail
    go_ret2
    exact ⟨rfl, rfl⟩
  · have i1 : ¬ i < 0 := by omega
    have i2 : (n : Int) ≤ i := by omega
    clear hi
    go_enter Tryd.func18, Tryd.ntmps18
    go_wp2_with fail
    go_ret2
    exact ⟨rfl, rfl⟩
set_option maxRecDepth 100000 in
set_option maxHeartbeats 1600000 in
theorem rproof_yes (A : Option Addr) (n c i : Nat) (L : List (List UInt8)) (w : World) (hn : L.length = n) (hi : i < n) (h9 : n ≤ 100000) (hc : n ≤ c) (hm : c ≤ maxLen) (h : Hs w w.heap.size A L) :
    Calls Tryd.prog 19 #[.slice A n c, .int .i64 i] w fun e w' => ∃ v, e = .returned (.tuple #[v, .int .i64 0]) ∧ OwnH w' w.heap.size v (wayS L i) ∧ Below w.heap.size w w' := by
  have i1 : ¬ (i : Int) < 0 := by omega
  have i2 : ¬ (n : Int) ≤ (i : Int) := by omega
  have HS := Lib.hid (way_any n A n c i L w (Nat.le_refl _) hn (by omega) hi h9 hc hm h)
  clear hn h
  go_enter Tryd.func19, Tryd.ntmps19
  go_wp2_with fail
  refine HS.out.mono ?_
  rintro e w2 ⟨v, rfl, ho, hb2⟩
  have HO := Lib.hid ho
  have HB := Lib.hid hb2
  clear ho hb2
  go_wp2_with fail
  go_ret2
  exact ⟨_, rfl, HO.out, HB.out⟩
set_option maxHeartbeats 800000 in
theorem rproof_no (A : Option Addr) (n c : Nat) (i : Int) (w : World) (hi : i < 0 ∨ (n : Int) ≤ i) :
    Calls Tryd.prog 19 #[.slice A n c, .int .i64 i] w fun e w' => e = .returned (.tuple #[.slice none 0 0, .int .i64 1]) ∧ w = w' := by
  by_cases i1 : i < 0
  · clear hi
    go_enter Tryd.func19, Tryd.ntmps19
    go_wp2_with fail
    go_ret2
    exact ⟨rfl, rfl⟩
  · have i1 : ¬ i < 0 := by omega
    have i2 : (n : Int) ≤ i := by omega
    clear hi
    go_enter Tryd.func19, Tryd.ntmps19
    go_wp2_with fail
    go_ret2
    exact ⟨rfl, rfl⟩
end Go.Proofs.YtgjepkcdacgieaaDoor
