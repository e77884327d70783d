/- seglog.Open over a disk without files. Conditions: as stated at each. -/
import Derived.Test.YtidadjlhnlmfkaaGreatDoorSlLoad
namespace Go.Proofs.YtidadjlhnlmfkaaGreatDoor
open Go.RowKit Go.Shelf Go Go.Maps
theorem segD_nil : SegD (.map []) [] := ⟨fun i => by simp [has]; omega, fun j c z hj => by simp at hj⟩
/-- behind Open: a log with one segment, which is empty. -/
def OpenP (W : World) (N : Nat) (Ft : Nat → Prop) (Dk k : Nat) (F : Files) (rm x lf : Int) (nm : ByteArray) (sz : Int) (e : Ending) (w' : World) : Prop :=
  ∃ L G Ft', e = .returned (.tuple #[.pointer (some ⟨L, 0, none⟩), .int .i64 0]) ∧ LogS w' N Ft' Dk (k + 2) (F.upd (fileN nm 1) (some ([], 0))) rm x (lfA lf) false L G nm sz [(0, 0)] false ∧
    Low w' Ft' ∧ (∀ i, i < W.heap.size → Ft' i → Ft i) ∧ W.heap.size ≤ L ∧ W.heap.size ≤ G ∧ Tn Ft W w'
set_option maxRecDepth 20000 in
set_option maxHeartbeats 2000000 in
theorem open_new (W : World) (N : Nat) (Ft : Nat → Prop) (Dk k : Nat) (F : Files) (rm x lf : Int) (nm : ByteArray) (sz : Int)
    (hS : DiskS W N Ft Dk k F rm x lf false) (hlow : Low W Ft) (hF : ∀ s, F s = none) (hn : nmOk nm) (hsz : 1 ≤ sz) (hk : k + 1 < maxLen) (hx : 0 ≤ x) (hx2 : x ≤ 100000000) (hlf : lf ≤ 9223372036854775807) (h1 : lf ≠ 1) :
    Calls Tryz.prog 9 #[.pointer (some ⟨Dk, 0, none⟩), .string nm, .int .i64 sz] W fun e w' => OpenP W N Ft Dk k F rm x lf nm sz e w' := by
  have hmm := @run_makeMap Tryz.prog
  have hmf : ∀ (fn : Fn) (first cap : Array Value) (w : World), (Instr.makeFunc fn first cap).run Tryz.prog w = .ok (.func fn first cap) w := fun _ _ _ _ => rfl
  have hen : ∀ args w, (callFunc 23 args).run Tryz.prog w = .ok (.enter 23 args) w := enters_of Tryz.func23 (by kernel_rfl) rfl
  have hn6 : nm.size ≤ 1000000 := by have := hn.1; omega
  have hfile : ∀ w, Calls Tryz.prog 19 #[.string nm, .int .i64 1] w fun e w' => e = .returned (.string (fileN nm 1)) ∧ Below w.heap.size w w' := fun w => file_any w nm 1 (by omega) hn6
  have hs1 := fileN_size nm 1
  have hs2 : (fileN nm 1 ++ spareB).size = nm.size + 11 := by rw [ByteArray.size_append, hs1]; rfl
  have hnm1 : ∀ w, Calls Tryz.prog 21 #[.string (fileN nm 1)] w fun e w' => e = .returned (.bool true) ∧ w = w' := fun w => by
    have := diskName_any (fileN nm 1) w (by unfold maxLen; omega)
    rwa [nameB_fileN hn 1] at this
  have hnm2 : ∀ w, Calls Tryz.prog 21 #[.string (fileN nm 1 ++ spareB)] w fun e w' => e = .returned (.bool true) ∧ w = w' := fun w => by
    have := diskName_any (fileN nm 1 ++ spareB) w (by unfold maxLen; omega)
    rwa [nameB_spare hn 1] at this
  have hcat : ¬ 9223372036854775807 < (fileN nm 1).size + 4 := by omega
  have hd := down_S W N Ft Dk k F rm x lf false hS
  unfold spareB at hnm2
  clear hs1 hs2
  go_enter Tryz.func9, Tryz.ntmps9
  have hfileB := hfile
  go_wp2_with (first
    | (go_at_call 20; refine hd.mono ?_; rintro e w' ⟨rfl, rfl⟩)
    | (go_at_call 19; refine (hfile _).mono ?_; clear hfile; rintro e w1 ⟨rfl, hb1⟩)
    | (go_at_call 19; refine (hfileB _).mono ?_; clear hfileB; rintro e w2 ⟨rfl, hb2⟩)
    | (go_at_call 21; refine (hnm1 _).mono ?_; clear hnm1; rintro e w' ⟨rfl, rfl⟩)
    | (go_at_call 21; refine (hnm2 _).mono ?_; clear hnm2; rintro e w' ⟨rfl, rfl⟩))
  have B2 : Below W.heap.size W w2 := hb1.trans (hb2.mono hb1.size)
  have z2 := B2.size
  have hL0 := BlkIs.new (w2.alloc (.map #[] 0)) 59 #[.pointer (some ⟨Dk, 0, none⟩), .string nm, .int .i64 sz, .map (some w2.heap.size), .int .i64 0, .bool false]
  rw [World.size_alloc] at hL0
  have hM0 : Held ((w2.alloc (.map #[] 0)).alloc (.cells #[.pointer (some ⟨Dk, 0, none⟩), .string nm, .int .i64 sz, .map (some w2.heap.size), .int .i64 0, .bool false] 59)) Tryz.prog 3 w2.heap.size 0 (.map []) := World.ownsMap.alloc (World.ownsMap_made w2 Tryz.prog 3 rh) _
  have B4 : Below W.heap.size W ((w2.alloc (.map #[] 0)).alloc (.cells #[.pointer (some ⟨Dk, 0, none⟩), .string nm, .int .i64 sz, .map (some w2.heap.size), .int .i64 0, .bool false] 59)) := (B2.alloc z2 _).alloc (by simp; omega) _
  have z4 : ((w2.alloc (.map #[] 0)).alloc (.cells #[.pointer (some ⟨Dk, 0, none⟩), .string nm, .int .i64 sz, .map (some w2.heap.size), .int .i64 0, .bool false] 59)).heap.size = w2.heap.size + 2 := by simp
  generalize ((w2.alloc (.map #[] 0)).alloc (.cells #[.pointer (some ⟨Dk, 0, none⟩), .string nm, .int .i64 sz, .map (some w2.heap.size), .int .i64 0, .bool false] 59)) = W4 at *
  have hLog : LogS W4 N Ft Dk k F rm x lf false (w2.heap.size + 1) w2.heap.size nm sz [] false :=
    ⟨hS.below B4, hL0, ⟨_, World.ownsMap.mono hM0 (Nat.zero_le _), segD_nil⟩, fun e => by have := hlow _ e; omega, fun e => by have := hlow _ e; omega⟩
  have B5 : Below W4.heap.size W4 (W4.alloc (.cells #[.int .i64 0] 33)) := (Below.refl _ W4).alloc (Nat.le_refl _) _
  have n5 := BlkIs.new W4 33 #[.int .i64 0]
  have hload := callsIn_wide.1 (load_none (W4.alloc (.cells #[.int .i64 0] 33)) N Ft Dk k F rm x lf (w2.heap.size + 1) w2.heap.size nm sz (hLog.below B5) (hlow.up (by have := B4.size; have := B5.size; omega)) hF hn hk hx hx2 hlf h1)
  have hcall := Lib.hid (call_m 23 (.pointer (some ⟨w2.heap.size + 1, 0, none⟩)) W4 (w2.heap.size + 1) Dk nm sz w2.heap.size 0 (fun y w' => y = 0 ∧ LgPost (W4.alloc (.cells #[.int .i64 0] 33)) N Ft Dk (k + 2) (F.upd (fileN nm 1) (some ([], 0))) rm x (lfA lf) false (w2.heap.size + 1) w2.heap.size nm sz [(0, 0)] false w') hL0 (hen _) (fun w' hq => absurd hq.1 (by decide)) (hload.mono (by
    rintro e w' ⟨rfl, hq⟩
    refine ⟨n5.tn hq.2 (fun e => ?_), .inl ⟨rfl, rfl, hq⟩⟩
    rcases e with e | e | e
    · have := hlow _ e
      omega
    · omega
    · omega)))
  clear hload
  refine hcall.out.mono ?_
  rintro e w' ⟨y, rfl, ⟨_, rfl, hq⟩ | ⟨rfl, w1, ⟨hy, _⟩, _⟩⟩
  · have HQ := Lib.hid hq
    clear hq hcall
    go_wp2_with fail
    go_ret2
    have hs5 := B5.size
    refine ⟨_, _, NewFt Ft (W4.alloc (.cells #[.int .i64 0] 33)) w', rfl, HQ.out.1, (hlow.up (by omega)).new HQ.out.2.size, fun i hi e => e.elim id (fun e => by omega), by omega, by omega, ?_⟩
    refine Tn.from_new (B4.trans (B5.mono B4.size)) HQ.out.2 (fun i hi e => ?_)
    rcases e with e | rfl | rfl
    · exact e
    · omega
    · omega
  · exact absurd hy (by decide)
end Go.Proofs.YtidadjlhnlmfkaaGreatDoor
