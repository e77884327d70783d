/- The chapter's example. Conditions: none. -/
import Derived.Test.YtidadjlhnlmfkaaGreatDoorSlAbs
import Derived.Lib.SlBytesConst
namespace Go.Proofs.YtidadjlhnlmfkaaGreatDoor
open Go.RowKit Go.Shelf Go
theorem new_A (W : World) (n : Int) (hn : 0 ≤ n) :
    Calls Tryz.prog 8 #[.int .i64 n] W fun e w' => ∃ Dk Ft, e = .returned (.pointer (some ⟨Dk, 0, none⟩)) ∧ DiskS w' W.heap.size Ft Dk 0 (fun _ => none) n 0 0 false ∧ Low w' Ft ∧ (∀ i, Ft i → W.heap.size ≤ i) ∧ Below W.heap.size W w' := by
  refine (new_S W n hn).mono ?_
  rintro e w' ⟨Dk, rfl, h1, h2⟩
  exact ⟨Dk, _, rfl, h1, fun i h => h.2, fun i h => h.1, h2⟩
theorem fileOK_open (nm : ByteArray) : FileOK nm (Files.upd (fun _ => none) (fileN nm 1) (some ([], 0))) [[]] := by
  refine ⟨fun j s hj => ?_, fun k hk hk2 => ?_⟩
  · have hjl := (List.getElem?_eq_some_iff.1 hj).1
    simp at hjl
    subst hjl
    simp at hj
    subst hj
    exact ⟨0, by unfold Files.upd; rw [if_pos rfl]; rfl⟩
  · simp at hk
    unfold Files.upd
    rw [if_neg (fun e => by have := fileN_inj (by omega) (by omega) e; omega)]
/-- a new disk and a log on it. -/
theorem open_A (W : World) (N : Nat) (Ft : Nat → Prop) (Dk : Nat) (rm : Int) (nm : ByteArray) (sz : Int) (hS : DiskS W N Ft Dk 0 (fun _ => none) rm 0 0 false) (hlow : Low W Ft) (hn : nmOk nm) (hsz : 1 ≤ sz) :
    Calls Tryz.prog 9 #[.pointer (some ⟨Dk, 0, none⟩), .string nm, .int .i64 sz] W fun e w' => ∃ L G Ft', e = .returned (.tuple #[.pointer (some ⟨L, 0, none⟩), .int .i64 0]) ∧ AbsS w' N Ft' Dk 2 rm 0 L G nm sz [[]] ∧
      Low w' Ft' ∧ (∀ i, i < W.heap.size → Ft' i → Ft i) ∧ W.heap.size ≤ L ∧ W.heap.size ≤ G ∧ Tn Ft W w' := by
  refine (open_new W N Ft Dk 0 _ rm 0 0 nm sz hS hlow (fun _ => rfl) hn hsz (by unfold maxLen; omega) (by omega) (by omega) (by omega) (by omega)).mono ?_
  rintro e w' ⟨L, G, Ft', rfl, h1, h2, h3, h4, h5, h6⟩
  exact ⟨L, G, Ft', rfl, ⟨_, h1, fileOK_open nm⟩, h2, h3, h4, h5, h6⟩
theorem sync_A (W : World) (N : Nat) (Ft : Nat → Prop) (Dk k : Nat) (rm x : Int) (L G : Nat) (nm : ByteArray) (sz : Int) (S0 : Segs) (s : List (List UInt8))
    (h : AbsS W N Ft Dk k rm x L G nm sz (S0 ++ [s])) (hlow : Low W Ft) (hl : S0.length < 999999) (hn : nmOk nm) (ht : took s ≤ 1000000) (hk : k < maxLen) (hx : 0 ≤ x) (hx2 : x ≤ 100000000) :
    Calls Tryz.prog 11 #[.pointer (some ⟨L, 0, none⟩)] W fun e w' => e = .returned (.int .i64 0) ∧ AbsS w' N (NewFt Ft W w') Dk (k + 1) rm x L G nm sz (S0 ++ [s]) ∧ Tn (OwnL Ft L G) W w' := by
  obtain ⟨F, hL, hF⟩ := h
  obtain ⟨sf, hf⟩ := hF.1 S0.length s (by simp)
  have hg : (gS (S0 ++ [s])).length = S0.length + 1 := by simp [gS]
  have hwl : (wr s).length ≤ 1000000 := by rw [wr_length]; exact ht
  refine (sync_L W N Ft Dk k F rm x 0 L G nm sz (gS (S0 ++ [s])) (wr s) sf hL hlow (by rw [hg]; omega) hn (by rw [hg]; exact hf) (by omega) hk hx hx2 (by omega) (by omega)).mono ?_
  rintro e w' ⟨rfl, hp⟩
  rw [hg] at hp
  exact ⟨rfl, ⟨_, hp.1, fileOK_last hF (by omega) _ _ rfl⟩, hp.2⟩
theorem recs_wr0 (l : List (List UInt8)) (h : ∀ r ∈ l, r.length ≤ 1000000) : recs (wr l) = l := by
  have h0 : recs [] = [] := recs_none (by unfold cutN; simp)
  have := recs_wr l [] h
  rw [h0, List.append_nil, List.append_nil] at this
  exact this
theorem records_A (W : World) (N : Nat) (Ft : Nat → Prop) (Dk k : Nat) (rm x : Int) (L G : Nat) (nm : ByteArray) (sz : Int) (S : Segs) (j : Nat) (s : List (List UInt8))
    (h : AbsS W N Ft Dk k rm x L G nm sz S) (hl : S.length ≤ 999999) (hn : nmOk nm) (hj : S[j]? = some s) (ht : took s ≤ 1000000) (hr : ∀ r ∈ s, r.length ≤ 1000000) :
    Calls Tryz.prog 15 #[.pointer (some ⟨L, 0, none⟩), .int .i64 ((j : Int) + 1)] W fun e w' => ∃ A c, e = .returned (.slice A s.length c) ∧ OwnR w' W.heap.size (.slice A s.length c) s ∧ Below W.heap.size W w' := by
  obtain ⟨F, hL, hF⟩ := h
  obtain ⟨sf, hf⟩ := hF.1 j s hj
  have := records_L W N Ft Dk k F rm x 0 L G nm sz (gS S) j _ _ (wr s) sf hL (by rw [gS_length]; exact hl) hn (gS_get hj) hf (by rw [wr_length]; omega)
  rwa [recs_wr0 s hr] at this
set_option maxRecDepth 20000 in
set_option maxHeartbeats 3200000 in
theorem awake_any (W : World) : Calls Tryz.prog 6 #[] W fun e w' => e = .returned (.bool true) ∧ Below W.heap.size W w' := by
  have hx0 : ∀ w (v u : Value), (Instr.extract (.tuple #[v, u]) 0).run Tryz.prog w = .ok v w := fun _ _ _ => by kernel_rfl
  have hx1 : ∀ w (v u : Value), (Instr.extract (.tuple #[v, u]) 1).run Tryz.prog w = .ok u w := fun _ _ _ => by kernel_rfl
  have hcv := fun (w : World) (C : Array Value) (n c : Nat) => Lib.run_convert_bytes_const (P := Tryz.prog) w 26 5 C n c Tryz.underlying26 Tryz.underlying5
  go_enter Tryz.func6, Tryz.ntmps6
  go_wp2_with fail
  refine (new_A W 100 (by omega)).mono ?_
  rintro e w1 ⟨Dk, Ft, rfl, h1, hlow, hge, hb1⟩
  have ho := Lib.hid (open_A w1 W.heap.size Ft Dk 100 ⟨#[97]⟩ 10 h1 hlow nmOk_a (by omega))
  clear h1
  go_wp2_with fail
  refine ho.out.mono ?_
  rintro e w2 ⟨L, G, Ft2, rfl, h2, hlow2, hf2, hL2, hG2, hT2⟩
  have hfile : ∀ w, Calls Tryz.prog 19 #[.string ⟨#[97, 114, 99, 104]⟩, .int .i64 7] w fun e w' => e = .returned (.string ⟨#[97, 114, 99, 104, 46, 48, 48, 48, 48, 48, 55]⟩) ∧ Below w.heap.size w w' := fun w =>
    file_any w ⟨#[97, 114, 99, 104]⟩ 7 (by omega) (by decide)
  have H2 := Lib.hid h2
  clear ho h2
  go_wp2_with (go_at_call 19; refine (hfile _).mono ?_; clear hfile; rintro e w3 ⟨rfl, hb3⟩)
  have nA := heap_alloc_new w3 (.cells #[.int .u8 97, .int .u8 98, .int .u8 99] 5 (3, 4))
  have B3 : Below w2.heap.size w2 (w3.alloc (.cells #[.int .u8 97, .int .u8 98, .int .u8 99] 5 (3, 4))) := hb3.alloc hb3.size _
  have hbt : Bts (w3.alloc (.cells #[.int .u8 97, .int .u8 98, .int .u8 99] 5 (3, 4))) (w3.alloc (.cells #[.int .u8 97, .int .u8 98, .int .u8 99] 5 (3, 4))).heap.size (some ⟨w3.heap.size, 0, none⟩) [97, 98, 99] := fun j u hj => by
    refine ⟨_, rfl, (Array.getElem?_eq_some_iff.1 nA).1, ?_⟩
    rcases j with _ | _ | _ | j
    · rw [← hj]; exact cell_of_row _ _ 0 _ _ _ nA
    · rw [← hj]; exact cell_of_row _ _ 1 _ _ _ nA
    · rw [← hj]; exact cell_of_row _ _ 2 _ _ _ nA
    · simp [bv] at hj
  generalize (w3.alloc (.cells #[.int .u8 97, .int .u8 98, .int .u8 99] 5 (3, 4))) = w4 at *
  have s1 := hb1.size
  have s2 := hT2.size
  have s4 := B3.size
  have h4 : AbsS w4 W.heap.size Ft2 Dk 2 100 0 L G ⟨#[97]⟩ 10 [[]] := by
    obtain ⟨F, q1, q2⟩ := H2.out
    exact ⟨F, q1.below B3, q2⟩
  have hap := append_A w4 W.heap.size Ft2 Dk 2 100 0 L G ⟨#[97]⟩ 10 [] [] (some ⟨w3.heap.size, 0, none⟩) 3 [97, 98, 99] h4 (hlow2.up B3.size) (by simp) nmOk_a (by simp [took]) (by unfold maxLen; omega) (by omega) (by omega) (by simp) (by simp) (by omega) (by omega) hbt (by simp) (by unfold maxLen; omega)
  have e1 : ((took ([] : List (List UInt8)) : Nat) : Int) < 10 := by simp [took]
  rw [if_pos e1] at hap
  have HA := Lib.hid hap
  clear hap
  have heq : ∀ w : World, (binOp .eql 37 (.agg #[.int .i64 1, .int .i64 0]) (.agg #[.int .i64 1, .int .i64 0])).run Tryz.prog w = .ok (.bool true) w := fun _ => by kernel_rfl
  go_wp2_with fail
  refine HA.out.mono ?_
  rintro e w5 ⟨he, h5, hT5⟩
  have he : e = .returned (.tuple #[.agg #[.int .i64 1, .int .i64 0], .int .i64 0]) := he
  subst he
  have h5' : AbsS w5 W.heap.size (NewFt Ft2 w4 w5) Dk 7 100 11 L G ⟨#[97]⟩ 10 ([] ++ [[[97, 98, 99]]]) := h5
  have s5 := hT5.size
  have B6 : Below w5.heap.size w5 (w5.alloc (.cells #[.int .i64 1, .int .i64 0] 37)) := (Below.refl _ w5).alloc (Nat.le_refl _) _
  have n6 := BlkIs.new w5 37 #[.int .i64 1, .int .i64 0]
  have h6 : AbsS (w5.alloc (.cells #[.int .i64 1, .int .i64 0] 37)) W.heap.size (NewFt Ft2 w4 w5) Dk 7 100 11 L G ⟨#[97]⟩ 10 ([] ++ [[[97, 98, 99]]]) := by
    obtain ⟨F, q1, q2⟩ := h5'
    exact ⟨F, q1.below B6, q2⟩
  have c60 := n6.cell 0
  have c61 := n6.cell 1
  have hlow5 : Low (w5.alloc (.cells #[.int .i64 1, .int .i64 0] 37)) (NewFt Ft2 w4 w5) := ((hlow2.up B3.size).new s5).up B6.size
  have hsy := Lib.hid (sync_A _ W.heap.size _ Dk 7 100 11 L G ⟨#[97]⟩ 10 [] [[97, 98, 99]] h6 hlow5 (by simp) nmOk_a (by simp [took]) (by unfold maxLen; omega) (by omega) (by omega))
  have H6 := Lib.hid h6
  clear h5 h5' h6 HA
  go_wp2_with fail
  refine hsy.out.mono ?_
  rintro e w7 ⟨rfl, h7, hT7⟩
  have hre := records_A w7 W.heap.size _ Dk 8 100 11 L G ⟨#[97]⟩ 10 ([] ++ [[[97, 98, 99]]]) 0 [[97, 98, 99]] h7 (by simp) nmOk_a (by simp) (by simp [took]) (by simp)
  have HR : Hid (Calls Tryz.prog 15 #[.pointer (some ⟨L, 0, none⟩), .int .i64 1] w7 fun e w' => ∃ A c, e = .returned (.slice A 1 c) ∧ OwnR w' w7.heap.size (.slice A 1 c) [[97, 98, 99]] ∧ Below w7.heap.size w7 w') := Lib.hid hre
  clear hre h7 hsy
  go_wp2_with fail
  refine HR.out.mono ?_
  rintro e w8 ⟨A, c, rfl, ho, hb8⟩
  go_wp2_with fail
  go_ret
  have s6 := B6.size
  have s7 := hT7.size
  have out : ∀ i, i < W.heap.size → ¬ OwnL Ft2 L G i := fun i hi e => by
    rcases e with e | rfl | rfl
    · have := hge i (hf2 i (by omega) e)
      omega
    · omega
    · omega
  have out7 : ∀ i, i < W.heap.size → ¬ OwnL (NewFt Ft2 w4 w5) L G i := fun i hi e => by
    rcases e with (e | ⟨e, _⟩) | e
    · exact out i hi (.inl e)
    · omega
    · exact out i hi (.inr e)
  have b2 := hb1.trans (hT2.below s1 (fun i hi e => by have := hge i e; omega))
  have b4 := b2.trans (B3.mono b2.size)
  have b5 := b4.trans (hT5.below b4.size out)
  have b6 := b5.trans (B6.mono b5.size)
  have b7 := b6.trans (hT7.below b6.size out7)
  exact ⟨rfl, b7.trans (hb8.mono b7.size)⟩
end Go.Proofs.YtidadjlhnlmfkaaGreatDoor
