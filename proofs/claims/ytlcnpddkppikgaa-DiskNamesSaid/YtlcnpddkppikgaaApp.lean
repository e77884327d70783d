/- (*disk.Disk).Append's closure at the example's states. Conditions: as stated at each. -/
import Derived.Test.YtlcnpddkppikgaaPut
import Derived.Deep.RegionHeld3
import Derived.Deep.RegionLaw
import Derived.Deep.RegionWith
import Derived.Deep.AppendLies
import Derived.Maps.AppendAt
import Derived.OneCell
namespace Go.Proofs.Ytlcnpddkppikgaa
open Go.RowKit Go
/-- the file's slice, and its number, as the map says them. -/
def FileAt (es : Array MapEntry) (clk : Nat) (v : Value) (s : Int) : Prop := (es = #[] ∧ v = .slice none 0 0 ∧ s = 0) ∨ ∃ born, born < clk ∧ es = #[ent (.agg #[v, .int .i64 s]) born]
theorem look_file (W : World) (M clk : Nat) (es : Array MapEntry) (v : Value) (s : Int) (hM : W.heap[M]? = some (.map es clk)) (hf : FileAt es clk v s) :
    (Instr.lookup 36 (.map (some M)) (.string nA) false).run Try.prog W = .ok (.agg #[v, .int .i64 s]) W := by
  rcases hf with ⟨rfl, rfl, rfl⟩ | ⟨born, _, rfl⟩
  · exact lk_none W M clk hM false
  · exact lk_some W M clk _ _ hM false
theorem own_ne {w : World} {base g : Nat} {t e : TypeId} {size n : Nat} {v : Value} {cs : Array Value} {xs : List Value} (h : w.ownsRow base e size v n xs) (hg : BlkIs w g t cs) (hne : e ≠ t) : v.ownBlock ≠ some g := by
  rcases h.2 with ⟨rfl, _⟩ | ⟨g', cap, cur, rfl, _, hh, _⟩
  · simp [Value.ownBlock]
  · intro he
    have : g' = g := by simpa [Value.ownBlock] using he
    subst this
    unfold BlkIs at hg
    rw [hh] at hg
    injection hg with hg
    injection hg with _ ht
    exact hne ht
theorem own_map {w : World} {base g : Nat} {e : TypeId} {size n clk : Nat} {v : Value} {es : Array MapEntry} {xs : List Value} (h : w.ownsRow base e size v n xs) (hg : w.heap[g]? = some (.map es clk)) : v.ownBlock ≠ some g := by
  rcases h.2 with ⟨rfl, _⟩ | ⟨g', cap, cur, rfl, _, hh, _⟩
  · simp [Value.ownBlock]
  · intro he
    have : g' = g := by simpa [Value.ownBlock] using he
    subst this
    rw [hh] at hg
    cases hg
theorem own_base {w : World} {base g : Nat} {e : TypeId} {size n : Nat} {v : Value} {xs : List Value} (h : w.ownsRow base e size v n xs) (hg : v.ownBlock = some g) : base ≤ g := by
  rcases h.2 with ⟨rfl, _⟩ | ⟨g', cap, cur, rfl, hb, _⟩
  · simp [Value.ownBlock] at hg
  · have : g' = g := by simpa [Value.ownBlock] using hg
    omega
theorem BlkIs.grown_ {W W' : World} {g : Nat} {t : TypeId} {cs : Array Value} {row : Option Nat} (h : BlkIs W g t cs) (hg : W.grownBy W' row) (hr : row ≠ some g) : BlkIs W' g t cs := (hg.block g h.lt (fun e => hr e.symm)).trans h
theorem at_grown {W W' : World} {g : Nat} {o : Obj} {row : Option Nat} (h : W.heap[g]? = some o) (hg : W.grownBy W' row) (hr : row ≠ some g) : W'.heap[g]? = some o := (hg.block g (Array.getElem?_eq_some_iff.1 h).1 (fun e => hr e.symm)).trans h
theorem Alk.grown_ {a b c : World} {row : Option Nat} (h : Alk a b) (k : b.grownBy c row) : a.grownBy c row :=
  ⟨k.os.trans h.2.1, k.tape.trans h.2.2.1, k.output.trans h.2.2.2, by have := k.size; rw [h.1] at this; exact this, fun i hi hr => by rw [k.block i (by rw [h.1]; exact hi) hr, h.1]⟩
theorem not_DM {w : World} {g D M clk : Nat} {t u : TypeId} {cs ds : Array Value} {es : Array MapEntry} (h : BlkIs w g t cs) (hD : BlkIs w D u ds) (hM : w.heap[M]? = some (.map es clk)) (hne : t ≠ u) : ¬ (g = D ∨ g = M) := by
  unfold BlkIs at h hD
  rintro (rfl | rfl)
  · rw [h] at hD
    injection hD with hD
    injection hD with _ ht
    exact hne ht
  · rw [h] at hM
    cases hM
/-- behind an append: the file's slice owns the bytes, old and new. -/
def AppPost (W : World) (N D M : Nat) (r l b : Value) (x : Int) (s : Int) (n : Nat) (xs : List Value) (w' : World) : Prop :=
  ∃ v clk es, BlkIs w' D 38 #[.map (some M), r, .int .i64 x, l, b] ∧ w'.heap[M]? = some (.map es clk) ∧ FileAt es clk v s ∧ w'.ownsRow N 5 1 v n xs ∧ (∃ a c, v = .slice a n c) ∧ Tn (fun i => i = D ∨ i = M ∨ N ≤ i) W w'
theorem ownsRow_tn {p : Nat → Prop} {w w' : World} {base : Nat} {e : TypeId} {size n : Nat} {v : Value} {xs : List Value} (h : w.ownsRow base e size v n xs) (k : Tn p w w') (hp : ∀ g, v.ownBlock = some g → ¬ p g) : w'.ownsRow base e size v n xs := by
  refine ⟨h.1, ?_⟩
  rcases h.2 with hn | ⟨g, cap, cur, rfl, hb, hgg, rest⟩
  · exact .inl hn
  · refine .inr ⟨g, cap, cur, rfl, hb, ?_, rest⟩
    rw [k.block g (Array.getElem?_eq_some_iff.1 hgg).1 (hp g rfl)]
    exact hgg
theorem addr_block (a : Addr) (n : Nat) : (a.add n).block = a.block := by unfold Addr.add; split <;> rfl
theorem info5 : (Try.prog.info? 5).map (fun i => (i.zero, i.size, i.bytes)) = some (some (.int .u8 0), 1, 1) := by kernel_rfl
set_option maxHeartbeats 800000 in
theorem app1_any (W : World) (N D M B0 B1 B2 S : Nat) (r l b : Value) (x : Int) (es : Array MapEntry) (clk : Nat) (a0 : Option Addr) (n0 c0 : Nat) (s : Int) (xs : List Value) (m cap : Nat) (news : List Value)
    (hD : BlkIs W D 38 #[.map (some M), r, .int .i64 x, l, b]) (hM : W.heap[M]? = some (.map es clk)) (hf : FileAt es clk (.slice a0 n0 c0) s) (hx : 0 ≤ x) (hx2 : x ≤ 500) (hn0 : n0 ≤ 500) (hm : m ≤ 500)
    (h0 : BlkIs W B0 24 #[.pointer (some ⟨D, 0, none⟩)]) (h1 : BlkIs W B1 9 #[.string nA]) (h2 : BlkIs W B2 28 #[.slice (some ⟨S, 0, none⟩) m cap])
    (hown : W.ownsRow N 5 1 (.slice a0 n0 c0) n0 xs) (hN : N ≤ W.heap.size) (hS : ∀ j u, news[j]? = some u → W.cell? (Addr.add ⟨S, 0, none⟩ j) = some u) (hSl : S < W.heap.size) (hS1 : ∀ u ∈ news, u.oneCell' = true) (hSn : news.length = m * 1) (hmp : 0 < m) :
    Calls Try.prog 16 #[.pointer (some ⟨B0, 0, none⟩), .pointer (some ⟨B1, 0, none⟩), .pointer (some ⟨B2, 0, none⟩)] W fun e w' => e = .returned (.tuple #[]) ∧ AppPost W N D M r l b (x + m) s (n0 + m) (xs ++ news) w' := by
  have dlt := hD.lt
  have mlt : M < W.heap.size := (Array.getElem?_eq_some_iff.1 hM).1
  have l0 := h0.lt
  have l1 := h1.lt
  have l2 := h2.lt
  have q0 := h0.cell 0
  have q1 := h1.cell 0
  have q2 := h2.cell 0
  have d0 := hD.cell 0
  have hl := look_file W M clk es _ s hM hf
  have hl1 := fun o => look_file (W.alloc o) M clk es _ s ((Below.heap_alloc W o M mlt).trans hM) hf
  have hl0 := look_file W.drew M clk es _ s hM hf
  have hl2 := fun o => look_file (W.alloc o).drew M clk es _ s ((Below.heap_alloc W o M mlt).trans hM) hf
  go_enter Try.func16, Try.ntmps16
  go_wp2_with fail
  go_region
  go_wp2_with fail
  have hT1 := ((Tn.refl (fun i => i = D ∨ i = M ∨ N ≤ i) W).alloc (Obj.cells #[Value.slice a0 n0 c0, Value.int IntKind.i64 s] 41))
  have hD1 := hD.alloc (Obj.cells #[Value.slice a0 n0 c0, Value.int IntKind.i64 s] 41)
  have hF1 := BlkIs.new W 41 #[Value.slice a0 n0 c0, Value.int IntKind.i64 s]
  have hM1 := (Below.heap_alloc W (Obj.cells #[Value.slice a0 n0 c0, Value.int IntKind.i64 s] 41) M mlt).trans hM
  have h01 := h0.alloc (Obj.cells #[Value.slice a0 n0 c0, Value.int IntKind.i64 s] 41)
  have h11 := h1.alloc (Obj.cells #[Value.slice a0 n0 c0, Value.int IntKind.i64 s] 41)
  have h21 := h2.alloc (Obj.cells #[Value.slice a0 n0 c0, Value.int IntKind.i64 s] 41)
  have hown1 := hown.alloc (Obj.cells #[Value.slice a0 n0 c0, Value.int IntKind.i64 s] 41)
  have hS2 : ∀ j u, news[j]? = some u → (W.alloc (Obj.cells #[Value.slice a0 n0 c0, Value.int IntKind.i64 s] 41)).cell? (Addr.add ⟨S, 0, none⟩ j) = some u := fun j u hj => (World.cell?_alloc_lt W _ _ (by rw [addr_block]; exact hSl)).trans (hS j u hj)
  obtain ⟨Wc, hWc⟩ : ∃ Wc, (W.alloc (Obj.cells #[Value.slice a0 n0 c0, Value.int IntKind.i64 s] 41)).drew = Wc := ⟨_, rfl⟩
  have hk : Alk (W.alloc (Obj.cells #[Value.slice a0 n0 c0, Value.int IntKind.i64 s] 41)) Wc := by subst hWc; exact ⟨rfl, rfl, rfl, rfl⟩
  have hown2 : Wc.ownsRow N 5 1 (.slice a0 n0 c0) n0 xs := by subst hWc; exact hown1
  have hS3 : ∀ j u, news[j]? = some u → Wc.cell? (Addr.add ⟨S, 0, none⟩ j) = some u := by subst hWc; exact hS2
  rw [hWc]
  have hT2 := hT1.alk hk
  have hD2 := hk.blk hD1
  have hF2 := hk.blk hF1
  have hM2 := hk.at_ hM1
  have h02 := hk.blk h01
  have h12 := hk.blk h11
  have h22 := hk.blk h21
  clear hWc hk hT1 hD1 hF1 hM1 h01 h11 h21 hown1 hS2 q0 q1 q2 d0 hl hl1 hl0 hl2
  have hfi : FileIs es clk n0 := by
    rcases hf with ⟨rfl, hv, _⟩ | ⟨born, hbc, rfl⟩
    · exact .inl ⟨rfl, by injection hv⟩
    · exact .inr ⟨_, _, _, _, hbc, rfl⟩
  have hNc : N ≤ Wc.drew.heap.size := Nat.le_trans hN hT2.size
  have hrow : ∀ g, (Value.slice a0 n0 c0).ownBlock = some g → (g = D ∨ g = M ∨ N ≤ g) ∨ W.heap.size ≤ g := fun g hg => .inl (.inr (.inr (own_base hown hg)))
  have q0 := h02.cell 0
  have q1 := h12.cell 0
  have q2 := h22.cell 0
  have r0 := hF2.cell 0
  have r1 := hF2.cell 1
  obtain ⟨i0, hi, hz0, hz1, hz2⟩ := info_parts info5
  have n0' := own_ne hown2 h02 (by decide)
  have n1' := own_ne hown2 h12 (by decide)
  have n2' := own_ne hown2 h22 (by decide)
  have nF' := own_ne hown2 hF2 (by decide)
  have nD' := own_ne hown2 hD2 (by decide)
  have nM' := own_map hown2 hM2
  have e0 := not_DM h02 hD2 hM2 (by decide)
  have e1 := not_DM h12 hD2 hM2 (by decide)
  have e2 := not_DM h22 hD2 hM2 (by decide)
  have eF := not_DM hF2 hD2 hM2 (by decide)
  have hdr : Alk Wc Wc.drew := ⟨rfl, rfl, rfl, rfl⟩
  go_region_held3 (fun w' => w'.cell? ⟨B0, 0, none⟩ = some (.pointer (some ⟨D, 0, none⟩)) ∧ w'.cell? ⟨B1, 0, none⟩ = some (.string nA) ∧ w'.cell? ⟨B2, 0, none⟩ = some (.slice (some ⟨S, 0, none⟩) m cap) ∧ w'.cell? ⟨W.heap.size, 0, none⟩ = some (.slice a0 n0 c0) ∧ w'.cell? ⟨W.heap.size, 1, none⟩ = some (.int .i64 s))
    (first
      | go_keep
      | exact ⟨(h02.grown_ (hdr.grown_ hg3) n0').cell 0, (h12.grown_ (hdr.grown_ hg3) n1').cell 0, (h22.grown_ (hdr.grown_ hg3) n2').cell 0, (hF2.grown_ (hdr.grown_ hg3) nF').cell 0, (hF2.grown_ (hdr.grown_ hg3) nF').cell 1⟩
      | exact ⟨((h02.grown_ (hdr.grown_ hg3) n0').tn hp.2.2 e0).cell 0, ((h12.grown_ (hdr.grown_ hg3) n1').tn hp.2.2 e1).cell 0, ((h22.grown_ (hdr.grown_ hg3) n2').tn hp.2.2 e2).cell 0, ((hF2.grown_ (hdr.grown_ hg3) nF').tn hp.2.2 eF).cell 0, ((hF2.grown_ (hdr.grown_ hg3) nF').tn hp.2.2 eF).cell 1⟩)
    (first
      | (refine step_append_lies _ (by rfl) _ _ _ (by rfl) N 5 i0 _ 1 1 Try.underlying28 hi hz0 hz1 hz2 rfl (by decide) (.slice a0 n0 c0) n0 xs (by rfl) hown2.drew ⟨S, 0, none⟩ m cap news (by rfl) hSn hS3 hS1 hmp (by unfold maxLen; omega) (by omega) hNc Wc.heap.size rfl ?_; intro g cap' w1 hown3 hg3 hloc3 hlt3; have hD3 := hD2.grown_ (hdr.grown_ hg3) nD'; have hM3 := at_grown hM2 (hdr.grown_ hg3) nM'; have hT3 := hT2.grown (hdr.grown_ hg3) hrow)
      | (go_at_call 17; refine (put_any w1 D M r l b x es clk n0 (some ⟨g, 0, none⟩) (n0 + m) cap' s hD3 hM3 hfi hx (by omega) (by omega) (by omega)).mono ?_; rintro e w2 ⟨rfl, hp⟩))
  go_wp2_with fail
  go_end0
  obtain ⟨hp1, ⟨born, clk', hbc, hp2⟩, hp3⟩ := hp
  have hno : ∀ j, (Value.slice (some ⟨g, 0, none⟩) (n0 + m) cap').ownBlock = some j → ¬ (j = D ∨ j = M) := fun j hj => by
    rintro (rfl | rfl)
    · exact own_ne hown3 hD3 (by decide) hj
    · exact own_map hown3 hM3 hj
  refine ⟨rfl, _, _, _, ?_, hp2, .inr ⟨_, hbc, rfl⟩, ownsRow_tn hown3 hp3 hno, ⟨_, _, rfl⟩, hT3.trans (hp3.mono (fun i _ h => h.elim .inl (fun h => .inr (.inl h))))⟩
  rw [show x + (m : Int) = x + (((n0 + m : Nat) : Int) - (n0 : Nat)) from by omega]
  exact hp1
end Go.Proofs.Ytlcnpddkppikgaa
