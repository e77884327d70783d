/- SlAwake SlFew SlFills SlDie. Conditions: as stated at each. -/
import Derived.Test.YtidadjlhnlmfkaaGreatDoorKt26
import Derived.Lib.SlBytesConst
import Derived.Test.YtidadjlhnlmfkaaGreatDoorKt06
import Derived.Test.YtidadjlhnlmfkaaGreatDoorKt20
/- The chapter's example. Conditions: none. -/
namespace Go.Proofs.YtidadjlhnlmfkaaGreatDoor
open Go.RowKit Go.Shelf Go
theorem new_A (W : World) (n : Int) (hn : 0 ≤ n) :
    Calls Tryz.prog 8 #[.int .i64 n] W fun e w' => ∃ Dk Ft, e = .returned (.pointer (some ⟨Dk, 0, none⟩)) ∧ DiskS w' W.heap.size Ft Dk 0 (fun _ => none) n 0 0 false ∧ Low w' Ft ∧ (∀ i, Ft i → W.heap.size ≤ i) ∧ Below W.heap.size W w' := by
  refine (new_S W n hn).mono ?_
  rintro e w' ⟨Dk, rfl, h1, h2⟩
  exact ⟨Dk, _, rfl, h1, fun i h => h.2, fun i h => h.1, h2⟩
theorem fileOK_open (nm : ByteArray) : FileOK nm (Files.upd (fun _ => none) (fileN nm 1) (some ([], 0))) [[]] := by
  refine ⟨fun j s hj => ?_, fun k hk hk2 => ?_⟩
  · have hjl := (List.getElem?_eq_some_iff.1 hj).1
    simp at hjl
    subst hjl
    simp at hj
    subst hj
    exact ⟨0, by unfold Files.upd; rw [if_pos rfl]; rfl⟩
  · simp at hk
    unfold Files.upd
    rw [if_neg (fun e => by have := fileN_inj (by omega) (by omega) e; omega)]
/-- a new disk and a log on it. -/
theorem open_A (W : World) (N : Nat) (Ft : Nat → Prop) (Dk : Nat) (rm : Int) (nm : ByteArray) (sz : Int) (hS : DiskS W N Ft Dk 0 (fun _ => none) rm 0 0 false) (hlow : Low W Ft) (hn : nmOk nm) (hsz : 1 ≤ sz) :
    Calls Tryz.prog 9 #[.pointer (some ⟨Dk, 0, none⟩), .string nm, .int .i64 sz] W fun e w' => ∃ L G Ft', e = .returned (.tuple #[.pointer (some ⟨L, 0, none⟩), .int .i64 0]) ∧ AbsS w' N Ft' Dk 2 rm 0 L G nm sz [[]] ∧
      Low w' Ft' ∧ (∀ i, i < W.heap.size → Ft' i → Ft i) ∧ W.heap.size ≤ L ∧ W.heap.size ≤ G ∧ Tn Ft W w' := by
  refine (open_new W N Ft Dk 0 _ rm 0 0 nm sz hS hlow (fun _ => rfl) hn hsz (by unfold maxLen; omega) (by omega) (by omega) (by omega) (by omega)).mono ?_
  rintro e w' ⟨L, G, Ft', rfl, h1, h2, h3, h4, h5, h6⟩
  exact ⟨L, G, Ft', rfl, ⟨_, h1, fileOK_open nm⟩, h2, h3, h4, h5, h6⟩
theorem sync_A (W : World) (N : Nat) (Ft : Nat → Prop) (Dk k : Nat) (rm x : Int) (L G : Nat) (nm : ByteArray) (sz : Int) (S0 : Segs) (s : List (List UInt8))
    (h : AbsS W N Ft Dk k rm x L G nm sz (S0 ++ [s])) (hlow : Low W Ft) (hl : S0.length < 999999) (hn : nmOk nm) (ht : took s ≤ 1000000) (hk : k < maxLen) (hx : 0 ≤ x) (hx2 : x ≤ 100000000) :
    Calls Tryz.prog 11 #[.pointer (some ⟨L, 0, none⟩)] W fun e w' => e = .returned (.int .i64 0) ∧ AbsS w' N (NewFt Ft W w') Dk (k + 1) rm x L G nm sz (S0 ++ [s]) ∧ Tn (OwnL Ft L G) W w' := by
  obtain ⟨F, hL, hF⟩ := h
  obtain ⟨sf, hf⟩ := hF.1 S0.length s (by simp)
  have hg : (gS (S0 ++ [s])).length = S0.length + 1 := by simp [gS]
  have hwl : (wr s).length ≤ 1000000 := by rw [wr_length]; exact ht
  refine (sync_L W N Ft Dk k F rm x 0 L G nm sz (gS (S0 ++ [s])) (wr s) sf hL hlow (by rw [hg]; omega) hn (by rw [hg]; exact hf) (by omega) hk hx hx2 (by omega) (by omega)).mono ?_
  rintro e w' ⟨rfl, hp⟩
  rw [hg] at hp
  exact ⟨rfl, ⟨_, hp.1, fileOK_last hF (by omega) _ _ rfl⟩, hp.2⟩
theorem recs_wr0 (l : List (List UInt8)) (h : ∀ r ∈ l, r.length ≤ 1000000) : recs (wr l) = l := by
  have h0 : recs [] = [] := recs_none (by unfold cutN; simp)
  have := recs_wr l [] h
  rw [h0, List.append_nil, List.append_nil] at this
  exact this
theorem records_A (W : World) (N : Nat) (Ft : Nat → Prop) (Dk k : Nat) (rm x : Int) (L G : Nat) (nm : ByteArray) (sz : Int) (S : Segs) (j : Nat) (s : List (List UInt8))
    (h : AbsS W N Ft Dk k rm x L G nm sz S) (hl : S.length ≤ 999999) (hn : nmOk nm) (hj : S[j]? = some s) (ht : took s ≤ 1000000) (hr : ∀ r ∈ s, r.length ≤ 1000000) :
    Calls Tryz.prog 15 #[.pointer (some ⟨L, 0, none⟩), .int .i64 ((j : Int) + 1)] W fun e w' => ∃ A c, e = .returned (.slice A s.length c) ∧ OwnR w' W.heap.size (.slice A s.length c) s ∧ Below W.heap.size W w' := by
  obtain ⟨F, hL, hF⟩ := h
  obtain ⟨sf, hf⟩ := hF.1 j s hj
  have := records_L W N Ft Dk k F rm x 0 L G nm sz (gS S) j _ _ (wr s) sf hL (by rw [gS_length]; exact hl) hn (gS_get hj) hf (by rw [wr_length]; omega)
  rwa [recs_wr0 s hr] at this
set_option maxRecDepth 20000 in
set_option maxHeartbeats 3200000 in
theorem awake_any (W : World) : Calls Tryz.prog 6 #[] W fun e w' => e = .returned (.bool true) ∧ Below W.heap.size W w' := by
  have hx0 : ∀ w (v u : Value), (Instr.extract (.tuple #[v, u]) 0).run Tryz.prog w = .ok v w := fun _ _ _ => by kernel_rfl
  have hx1 : ∀ w (v u : Value), (Instr.extract (.tuple #[v, u]) 1).run Tryz.prog w = .ok u w := fun _ _ _ => by kernel_rfl
  have hcv := fun (w : World) (C : Array Value) (n c : Nat) => Lib.run_convert_bytes_const (P := Tryz.prog) w 26 5 C n c Tryz.underlying26 Tryz.underlying5
  go_enter Tryz.func6, Tryz.ntmps6
  go_wp2_with fail
  refine (new_A W 100 (by omega)).mono ?_
  rintro e w1 ⟨Dk, Ft, rfl, h1, hlow, hge, hb1⟩
  have ho := Lib.hid (open_A w1 W.heap.size Ft Dk 100 ⟨#[97]⟩ 10 h1 hlow nmOk_a (by omega))
  clear h1
  go_wp2_with fail
  refine ho.out.mono ?_
  rintro e w2 ⟨L, G, Ft2, rfl, h2, hlow2, hf2, hL2, hG2, hT2⟩
  have hfile : ∀ w, Calls Tryz.prog 19 #[.string ⟨#[97, 114, 99, 104]⟩, .int .i64 7] w fun e w' => e = .returned (.string ⟨#[97, 114, 99, 104, 46, 48, 48, 48, 48, 48, 55]⟩) ∧ Below w.heap.size w w' := fun w =>
    file_any w ⟨#[97, 114, 99, 104]⟩ 7 (by omega) (by decide)
  have H2 := Lib.hid h2
  clear ho h2
  go_wp2_with (go_at_call 19; refine (hfile _).mono ?_; clear hfile; rintro e w3 ⟨rfl, hb3⟩)
  have nA := heap_alloc_new w3 (.cells #[.int .u8 97, .int .u8 98, .int .u8 99] 5 (3, 4))
  have B3 : Below w2.heap.size w2 (w3.alloc (.cells #[.int .u8 97, .int .u8 98, .int .u8 99] 5 (3, 4))) := hb3.alloc hb3.size _
  have hbt : Bts (w3.alloc (.cells #[.int .u8 97, .int .u8 98, .int .u8 99] 5 (3, 4))) (w3.alloc (.cells #[.int .u8 97, .int .u8 98, .int .u8 99] 5 (3, 4))).heap.size (some ⟨w3.heap.size, 0, none⟩) [97, 98, 99] := fun j u hj => by
    refine ⟨_, rfl, (Array.getElem?_eq_some_iff.1 nA).1, ?_⟩
    rcases j with _ | _ | _ | j
    · rw [← hj]; exact cell_of_row _ _ 0 _ _ _ nA
    · rw [← hj]; exact cell_of_row _ _ 1 _ _ _ nA
    · rw [← hj]; exact cell_of_row _ _ 2 _ _ _ nA
    · simp [bv] at hj
  generalize (w3.alloc (.cells #[.int .u8 97, .int .u8 98, .int .u8 99] 5 (3, 4))) = w4 at *
  have s1 := hb1.size
  have s2 := hT2.size
  have s4 := B3.size
  have h4 : AbsS w4 W.heap.size Ft2 Dk 2 100 0 L G ⟨#[97]⟩ 10 [[]] := by
    obtain ⟨F, q1, q2⟩ := H2.out
    exact ⟨F, q1.below B3, q2⟩
  have hap := append_A w4 W.heap.size Ft2 Dk 2 100 0 L G ⟨#[97]⟩ 10 [] [] (some ⟨w3.heap.size, 0, none⟩) 3 [97, 98, 99] h4 (hlow2.up B3.size) (by simp) nmOk_a (by simp [took]) (by unfold maxLen; omega) (by omega) (by omega) (by simp) (by simp) (by omega) (by omega) hbt (by simp) (by unfold maxLen; omega)
  have e1 : ((took ([] : List (List UInt8)) : Nat) : Int) < 10 := by simp [took]
  rw [if_pos e1] at hap
  have HA := Lib.hid hap
  clear hap
  have heq : ∀ w : World, (binOp .eql 37 (.agg #[.int .i64 1, .int .i64 0]) (.agg #[.int .i64 1, .int .i64 0])).run Tryz.prog w = .ok (.bool true) w := fun _ => by kernel_rfl
  go_wp2_with fail
  refine HA.out.mono ?_
  rintro e w5 ⟨he, h5, hT5⟩
  have he : e = .returned (.tuple #[.agg #[.int .i64 1, .int .i64 0], .int .i64 0]) := he
  subst he
  have h5' : AbsS w5 W.heap.size (NewFt Ft2 w4 w5) Dk 7 100 11 L G ⟨#[97]⟩ 10 ([] ++ [[[97, 98, 99]]]) := h5
  have s5 := hT5.size
  have B6 : Below w5.heap.size w5 (w5.alloc (.cells #[.int .i64 1, .int .i64 0] 37)) := (Below.refl _ w5).alloc (Nat.le_refl _) _
  have n6 := BlkIs.new w5 37 #[.int .i64 1, .int .i64 0]
  have h6 : AbsS (w5.alloc (.cells #[.int .i64 1, .int .i64 0] 37)) W.heap.size (NewFt Ft2 w4 w5) Dk 7 100 11 L G ⟨#[97]⟩ 10 ([] ++ [[[97, 98, 99]]]) := by
    obtain ⟨F, q1, q2⟩ := h5'
    exact ⟨F, q1.below B6, q2⟩
  have c60 := n6.cell 0
  have c61 := n6.cell 1
  have hlow5 : Low (w5.alloc (.cells #[.int .i64 1, .int .i64 0] 37)) (NewFt Ft2 w4 w5) := ((hlow2.up B3.size).new s5).up B6.size
  have hsy := Lib.hid (sync_A _ W.heap.size _ Dk 7 100 11 L G ⟨#[97]⟩ 10 [] [[97, 98, 99]] h6 hlow5 (by simp) nmOk_a (by simp [took]) (by unfold maxLen; omega) (by omega) (by omega))
  have H6 := Lib.hid h6
  clear h5 h5' h6 HA
  go_wp2_with fail
  refine hsy.out.mono ?_
  rintro e w7 ⟨rfl, h7, hT7⟩
  have hre := records_A w7 W.heap.size _ Dk 8 100 11 L G ⟨#[97]⟩ 10 ([] ++ [[[97, 98, 99]]]) 0 [[97, 98, 99]] h7 (by simp) nmOk_a (by simp) (by simp [took]) (by simp)
  have HR : Hid (Calls Tryz.prog 15 #[.pointer (some ⟨L, 0, none⟩), .int .i64 1] w7 fun e w' => ∃ A c, e = .returned (.slice A 1 c) ∧ OwnR w' w7.heap.size (.slice A 1 c) [[97, 98, 99]] ∧ Below w7.heap.size w7 w') := Lib.hid hre
  clear hre h7 hsy
  go_wp2_with fail
  refine HR.out.mono ?_
  rintro e w8 ⟨A, c, rfl, ho, hb8⟩
  go_wp2_with fail
  go_ret
  have s6 := B6.size
  have s7 := hT7.size
  have out : ∀ i, i < W.heap.size → ¬ OwnL Ft2 L G i := fun i hi e => by
    rcases e with e | rfl | rfl
    · have := hge i (hf2 i (by omega) e)
      omega
    · omega
    · omega
  have out7 : ∀ i, i < W.heap.size → ¬ OwnL (NewFt Ft2 w4 w5) L G i := fun i hi e => by
    rcases e with (e | ⟨e, _⟩) | e
    · exact out i hi (.inl e)
    · omega
    · exact out i hi (.inr e)
  have b2 := hb1.trans (hT2.below s1 (fun i hi e => by have := hge i e; omega))
  have b4 := b2.trans (B3.mono b2.size)
  have b5 := b4.trans (hT5.below b4.size out)
  have b6 := b5.trans (B6.mono b5.size)
  have b7 := b6.trans (hT7.below b6.size out7)
  exact ⟨rfl, b7.trans (hb8.mono b7.size)⟩
end Go.Proofs.YtidadjlhnlmfkaaGreatDoor
/- The law's few at one act that has only records. Conditions: as stated. -/
namespace Go.Proofs.YtidadjlhnlmfkaaGreatDoor
open Go.RowKit Go
def small (r : List UInt8) : Bool := decide (r.length ≤ 300)
def fewB (ll : List (List UInt8)) : Bool := decide (ll.length ≤ 20) && ll.all small
theorem few_next (ll : List (List UInt8)) (k : Nat) (h : k < ll.length) : (ll.take (k + 1)).all small = ((ll.take k).all small && small (ll.getD k [])) := by
  rw [List.take_succ_eq_append_getElem h, List.getD, List.getElem?_eq_getElem h, List.all_append, List.all_cons, List.all_nil, Bool.and_true]; rfl
theorem few_bad (ll : List (List UInt8)) (k : Nat) (h : k < ll.length) (hs : small (ll.getD k []) = false) : fewB ll = false := by
  unfold fewB
  rw [Bool.and_eq_false_iff]
  right
  rw [List.all_eq_false]
  exact ⟨ll.getD k [], by rw [List.getD, List.getElem?_eq_getElem h]; exact List.getElem_mem h, by rw [hs]; simp⟩
theorem few_len {ll : List (List UInt8)} (h : fewB ll = true) : ll.length ≤ 20 ∧ ∀ r ∈ ll, r.length ≤ 300 := by
  unfold fewB at h
  rw [Bool.and_eq_true, List.all_eq_true] at h
  exact ⟨of_decide_eq_true h.1, fun r hr => of_decide_eq_true (h.2 r hr)⟩
theorem took_bound : ∀ l : List (List UInt8), (∀ r ∈ l, r.length ≤ 300) → took l ≤ 308 * l.length
  | [], _ => by simp [took]
  | r :: l, hl => by
    have := took_bound l (fun x hx => hl x (by simp [hx]))
    have := hl r (by simp)
    rw [took_cons, List.length_cons]
    omega
theorem few_took {ll : List (List UInt8)} (h : fewB ll = true) : took ll ≤ 6160 := by
  obtain ⟨h1, h2⟩ := few_len h
  have := took_bound ll h2
  omega
set_option maxHeartbeats 1600000 in
set_option maxRecDepth 20000 in
theorem few_one (W : World) (bA : Nat) (A : Option Addr) (c : Nat) (ll : List (List UInt8)) (hA : BlkIs W bA 28 #[.int .i64 0, .slice none 0 0, .slice A ll.length c, .int .i64 0, .slice none 0 0]) (h : Rws W W.heap.size A ll) (hl : ll.length ≤ maxLen) :
    Calls Tryz.prog 7 #[.slice (some ⟨bA, 0, none⟩) 1 1] W fun e w' => e = .returned (.bool (fewB ll)) ∧ Below W.heap.size W w' := by
  unfold maxLen at hl
  have a0 := hA.cell 0
  have a1 := hA.cell 1
  have a2 := hA.cell 2
  have a3 := hA.cell 3
  have a4 := hA.cell 4
  go_enter Tryz.func7, Tryz.ntmps7
  go_wp2_with fail
  go_loopw [12] (fun i wr => (i = .int .i64 0 ∧ wr = W) ∨ (i = .int .i64 1 ∧ Below W.heap.size W wr ∧ fewB ll = true)) (fun i _ => 1 - (intOf i).toNat)
  case atStart => exact .inl ⟨rfl, rfl⟩
  case round =>
    rcases hrel with ⟨rfl, rfl⟩ | ⟨rfl, hB, hf⟩
    · have hn := BlkIs.new wr 28 #[.int .i64 0, .slice none 0 0, .slice A ll.length c, .int .i64 0, .slice none 0 0]
      have hB1 : Below wr.heap.size wr (wr.alloc (.cells #[.int .i64 0, .slice none 0 0, .slice A ll.length c, .int .i64 0, .slice none 0 0] 28)) := (Below.refl _ wr).alloc (Nat.le_refl _) _
      by_cases h20 : 20 < ll.length
      · have hb : false = fewB ll := by unfold fewB; simp; omega
        have HB := Lib.hid hb
        clear hb
        go_wp2_with fail
        go_ret
        exact ⟨ret_b HB.out, hB1⟩
      · have hR := h.below hB1
        go_wp2_with fail
        generalize (wr.alloc (.cells #[.int .i64 0, .slice none 0 0, .slice A ll.length c, .int .i64 0, .slice none 0 0] 28)) = W1 at *
        go_loop [35] (fun i => ∃ k : Nat, k ≤ ll.length ∧ i = .int .i64 k ∧ (ll.take k).all small = true) (fun i => ll.length - (intOf i).toNat)
        case atStart => exact ⟨0, Nat.zero_le _, rfl, by simp⟩
        case round =>
          obtain ⟨k, hk, rfl, ha⟩ := hrel
          have HA := Lib.hid ha
          clear ha
          by_cases hlt : k < ll.length
          · obtain ⟨ad, Ak, ck, rfl, _, hcell, hck, hm, _⟩ := hR.at_ hlt
            have HN := Lib.hid (few_next ll k hlt)
            have HF := Lib.hid (few_bad ll k hlt)
            generalize hr : ll.getD k [] = r at *
            have HRr := Lib.hid hr
            clear hr
            unfold maxLen at hm
            by_cases hsm : 300 < r.length
            · have hb : false = fewB ll := (HF.out (by unfold small; simp; omega)).symm
              have HB := Lib.hid hb
              clear hb
              go_wp2_with fail
              go_ret
              exact ⟨ret_b HB.out, hB1⟩
            · have hs : small r = true := by unfold small; simp; omega
              have HS := Lib.hid hs
              clear hs
              go_wp2_with fail
              go_round
              case rel => exact ⟨k + 1, by omega, by go_num, by rw [HN.out, HA.out, HS.out]; rfl⟩
              case measure => simp [intOf]; omega
          · obtain rfl : k = ll.length := by omega
            have hf : fewB ll = true := by
              have := HA.out
              rw [List.take_length] at this
              unfold fewB
              rw [this, decide_eq_true (by omega)]
              rfl
            have HF := Lib.hid hf
            clear hf
            go_wp2_with fail
            exact ⟨.inr ⟨rfl, hB1, HF.out⟩, by simp [intOf]⟩
    · have HF := Lib.hid hf.symm
      clear hf
      go_wp2_with fail
      go_ret
      exact ⟨ret_b HF.out, hB⟩
end Go.Proofs.YtidadjlhnlmfkaaGreatDoor
/- The walk of SeglogFills. Conditions: none but that the input is read. -/
namespace Go.Proofs.YtidadjlhnlmfkaaGreatDoor
open Go.RowKit Go.Shelf Go
/-- all segments but the last one are full. -/
def FullS (sz : Int) (S : Segs) : Prop := ∀ (j : Nat) s, S[j]? = some s → j + 1 < S.length → sz ≤ (took s : Int)
/-- what stands when k records have been appended. -/
def FillI (W : World) (N : Nat) (Dk L G : Nat) (sz : Int) (ll : List (List UInt8)) (k : Nat) (wr : World) : Prop :=
  ∃ S0 s Ft, AbsS wr N Ft Dk (2 + 5 * k) 1048576 (took (ll.take k) : Nat) L G ⟨#[120]⟩ sz (S0 ++ [s]) ∧ (S0 ++ [s]).flatten = ll.take k ∧ FullS sz (S0 ++ [s]) ∧ S0.length ≤ k ∧ Low wr Ft ∧ (∀ i, Ft i → W.heap.size ≤ i) ∧ Below W.heap.size W wr ∧ N ≤ wr.heap.size ∧ W.heap.size ≤ L ∧ W.heap.size ≤ G
theorem take_flat {ll : List (List UInt8)} {k : Nat} (hk : k < ll.length) : ll.take (k + 1) = ll.take k ++ [ll.getD k []] := by
  rw [List.take_succ_eq_append_getElem hk, List.getD, List.getElem?_eq_getElem hk]; rfl
theorem full_stay {sz : Int} {S0 : Segs} {s t : List (List UInt8)} (h : FullS sz (S0 ++ [s])) : FullS sz (S0 ++ [t]) := fun j u hj hl => by
  simp at hl
  refine h j u ?_ (by simp; omega)
  rw [List.getElem?_append_left (by omega)] at hj ⊢
  exact hj
theorem full_roll {sz : Int} {S0 : Segs} {s t : List (List UInt8)} (h : FullS sz (S0 ++ [s])) (hs : sz ≤ (took s : Int)) : FullS sz (S0 ++ [s] ++ [t]) := fun j u hj hl => by
  simp at hl
  by_cases e : j = S0.length
  · subst e
    have : s = u := by simpa using hj
    rw [← this]
    exact hs
  · refine h j u ?_ (by simp; omega)
    rw [List.getElem?_append_left (by simp; omega)] at hj
    exact hj
theorem took_flat_le {S : Segs} {s : List (List UInt8)} (h : s ∈ S) : took s ≤ took S.flatten := by
  induction S with
  | nil => simp at h
  | cons a t ih =>
    rw [List.flatten_cons, took_append]
    rcases List.mem_cons.1 h with rfl | h
    · omega
    · have := ih h
      omega
theorem fill_next {W : World} {N Dk L G : Nat} {sz : Int} {ll : List (List UInt8)} {k : Nat} {wr : World} (h : FillI W N Dk L G sz ll k wr) (hf : fewB ll = true) (hk : k < ll.length) (A : Option Addr) (cp : Nat) (hA : Bts wr wr.heap.size A (ll.getD k [])) (hcp : (ll.getD k []).length ≤ cp) (hcm : cp ≤ maxLen) :
    Calls Tryz.prog 10 #[.pointer (some ⟨L, 0, none⟩), .slice A (ll.getD k []).length cp] wr fun e w' => (∃ p q, e = .returned (.tuple #[.agg #[.int .i64 p, .int .i64 q], .int .i64 0])) ∧ FillI W N Dk L G sz ll (k + 1) w' := by
  obtain ⟨S0, s, Ft, h1, h2, h3, h4, h5, h6, h7, h8, h9, h10⟩ := h
  obtain ⟨f1, f2⟩ := few_len hf
  have f3 := few_took hf
  have hmem : ll.getD k [] ∈ ll := by rw [List.getD, List.getElem?_eq_getElem hk]; exact List.getElem_mem hk
  have hr := f2 _ hmem
  have htk : took (ll.take k) ≤ took ll := by
    have := took_append (ll.take k) (ll.drop k)
    rw [List.take_append_drop] at this
    omega
  have hts : took s ≤ took (ll.take k) := by rw [← h2]; exact took_flat_le (by simp)
  have hnx := take_flat hk
  refine (append_A wr N Ft Dk (2 + 5 * k) 1048576 _ L G ⟨#[120]⟩ sz S0 s A cp (ll.getD k []) h1 h5 (by omega) nmOk_x (by omega) (by unfold maxLen; omega) (by omega) (by omega) (by omega) (by omega) (by omega) h8 hA hcp hcm).mono ?_
  rintro e w' ⟨rfl, q1, q2⟩
  have htn : (took (ll.take k) : Int) + (8 + (ll.getD k []).length : Nat) = (took (ll.take (k + 1)) : Nat) := by
    rw [hnx, took_append]
    simp [took]
  rw [htn, show 2 + 5 * k + 5 = 2 + 5 * (k + 1) from by omega] at q1
  have hz := q2.size
  have hft : ∀ i, NewFt Ft wr w' i → W.heap.size ≤ i := fun i hi => hi.elim (h6 i) (fun e => by have := h7.size; omega)
  have hbel : Below W.heap.size W w' := h7.trans (q2.below h7.size (fun i hi e => by
    rcases e with e | rfl | rfl
    · have := h6 i e
      omega
    · omega
    · omega))
  unfold addL at q1
  by_cases hs : (took s : Int) < sz
  · rw [if_pos hs] at q1 ⊢
    exact ⟨⟨_, _, rfl⟩, S0, s ++ [ll.getD k []], _, q1, by rw [hnx, ← h2]; simp, full_stay h3, by omega, h5.new hz, hft, hbel, by omega, h9, h10⟩
  · rw [if_neg hs] at q1 ⊢
    exact ⟨⟨_, _, rfl⟩, S0 ++ [s], [ll.getD k []], _, q1, by rw [hnx, ← h2]; simp, full_roll h3 (by omega), by simp; omega, h5.new hz, hft, hbel, by omega, h9, h10⟩
theorem FillI.below {W : World} {N Dk L G : Nat} {sz : Int} {ll : List (List UInt8)} {k : Nat} {wr w' : World} (h : FillI W N Dk L G sz ll k wr) (hb : Below wr.heap.size wr w') : FillI W N Dk L G sz ll k w' := by
  obtain ⟨S0, s, Ft, ⟨F, q1, q2⟩, h2, h3, h4, h5, h6, h7, h8, h9, h10⟩ := h
  exact ⟨S0, s, Ft, ⟨F, q1.below hb, q2⟩, h2, h3, h4, h5.up hb.size, h6, h7.trans (hb.mono h7.size), Nat.le_trans h8 hb.size, h9, h10⟩
theorem RowVs.more {w : World} {B B' : Nat} {vs : List Value} {ll : List (List UInt8)} (h : RowVs w B vs ll) (hB : B ≤ B') : RowVs w B' vs ll := ⟨h.1, fun k r u hr hu => by
  obtain ⟨A, c, h1, h2, h3, h4⟩ := h.2 k r u hr hu
  exact ⟨A, c, h1, h2, h3, h4.more hB⟩⟩
theorem rowVs_of_own {w : World} {N : Nat} {v : Value} {ll : List (List UInt8)} (h : OwnR w N v ll) : ∃ vs A c, v = .slice A ll.length c ∧ Cs w w.heap.size A vs ∧ RowVs w w.heap.size vs ll := by
  have h0 := h
  obtain ⟨A, c, rfl, _, _⟩ := h.slice
  obtain ⟨vs, h1, h2, h3⟩ := h0
  refine ⟨vs, A, c, rfl, Cs.of_own h1, h2, fun k r u hr hu => ?_⟩
  have ho := h3 k r u hr hu
  obtain ⟨A', c', rfl, q1, q2⟩ := own_slice ho
  exact ⟨A', c', rfl, q1, q2, Own5.bts ho⟩
/-- what an append of many rows leaves. -/
theorem OwnR.joined {w w' : World} {N M : Nat} {v v' : Value} {ll mm : List (List UInt8)} {vs us : List Value} (hM : N ≤ M) (h1 : w.ownsRow N 26 1 v ll.length vs) (h2 : vs.length = ll.length) (h3 : ∀ (k : Nat) r u, ll[k]? = some r → vs[k]? = some u → Own5 w N u r)
    (u2 : us.length = mm.length) (u3 : ∀ (k : Nat) r u, mm[k]? = some r → us[k]? = some u → Own5 w M u r) (h' : w'.ownsRow N 26 1 v' (vs ++ us).length (vs ++ us)) (hg : w.grownBy w' v.ownBlock) : OwnR w' N v' (ll ++ mm) := by
  have kept : ∀ u r, Own5 w N u r → Own5 w' N u r := fun u r ho => World.ownsRow.kept ho hg (own_ne_own ho h1 (by decide))
  have hl : (vs ++ us).length = (ll ++ mm).length := by simp [h2, u2]
  refine ⟨vs ++ us, by rw [hl] at h'; exact h', hl, fun k r u hr hu => ?_⟩
  by_cases hk : k < ll.length
  · rw [List.getElem?_append_left hk] at hr
    rw [List.getElem?_append_left (by omega)] at hu
    exact kept u r (h3 k r u hr hu)
  · rw [List.getElem?_append_right (by omega)] at hr
    rw [List.getElem?_append_right (by omega), h2] at hu
    exact kept u r (own_more (u3 _ r u hr hu) hM)
theorem one_of_own {w : World} {N : Nat} {us : List Value} {mm : List (List UInt8)} (u2 : us.length = mm.length) (u3 : ∀ (k : Nat) r u, mm[k]? = some r → us[k]? = some u → Own5 w N u r) : ∀ u ∈ us, u.oneCell' = true := by
  intro u hu
  obtain ⟨k, hk, e⟩ := List.getElem_of_mem hu
  have hk2 : k < mm.length := by omega
  have := u3 k mm[k] u (List.getElem?_eq_getElem hk2) (by rw [List.getElem?_eq_getElem hk, e])
  obtain ⟨A, c, rfl, _⟩ := own_slice this
  rfl
theorem flat_next {S : Segs} {j : Nat} {s : List (List UInt8)} (h : S[j]? = some s) : (S.take (j + 1)).flatten = (S.take j).flatten ++ s := by
  obtain ⟨hj, e⟩ := List.getElem?_eq_some_iff.1 h
  rw [List.take_succ_eq_append_getElem hj, List.flatten_append, e]
  simp
set_option maxRecDepth 20000 in
set_option maxHeartbeats 3200000 in
theorem fills_any (W : World) (sz : Int) (A : Option Addr) (c : Nat) (ll : List (List UInt8)) (hR : Rws W W.heap.size A ll) (hl : ll.length ≤ c) (hc : c ≤ maxLen) :
    Calls Tryz.prog 5 #[.int .i64 sz, .slice A ll.length c] W fun e w' => e = .returned (.bool true) ∧ Below W.heap.size W w' := by
  have hx0 : ∀ w (v u : Value), (Instr.extract (.tuple #[v, u]) 0).run Tryz.prog w = .ok v w := fun _ _ _ => by kernel_rfl
  have hx1 : ∀ w (v u : Value), (Instr.extract (.tuple #[v, u]) 1).run Tryz.prog w = .ok u w := fun _ _ _ => by kernel_rfl
  go_enter Tryz.func5, Tryz.ntmps5
  go_wp2_with fail
  refine (awake_any W).mono ?_
  rintro e w1 ⟨rfl, hb1⟩
  have nA := BlkIs.new w1 28 #[.int .i64 0, .slice none 0 0, .slice A ll.length c, .int .i64 0, .slice none 0 0]
  have B2 : Below W.heap.size W (w1.alloc (.cells #[.int .i64 0, .slice none 0 0, .slice A ll.length c, .int .i64 0, .slice none 0 0] 28)) := hb1.alloc hb1.size _
  go_wp2_with fail
  generalize (w1.alloc (.cells #[.int .i64 0, .slice none 0 0, .slice A ll.length c, .int .i64 0, .slice none 0 0] 28)) = w2 at *
  refine (few_one w2 w1.heap.size A c ll nA ((hR.below B2).more B2.size) (by omega)).mono ?_
  rintro e w3 ⟨rfl, hb3⟩
  have B3 := B2.trans (hb3.mono B2.size)
  cases hf : fewB ll with
  | false =>
    go_wp2_with fail
    go_ret
    exact ⟨rfl, B3⟩
  | true =>
    by_cases hs : sz < 1
    · go_wp2_with fail
      go_ret
      exact ⟨rfl, B3⟩
    · go_wp2_with fail
      refine (new_A w3 1048576 (by omega)).mono ?_
      rintro e w4 ⟨Dk, Ft, rfl, h4, hlow, hge, hb4⟩
      have ho := Lib.hid (open_A w4 w3.heap.size Ft Dk 1048576 ⟨#[120]⟩ sz h4 hlow nmOk_x (by omega))
      clear h4
      go_wp2_with fail
      refine ho.out.mono ?_
      rintro e w5 ⟨L, G, Ft2, rfl, h5, hlow2, hf2, hL2, hG2, hT2⟩
      have s3 := B3.size
      have s4 := hb4.size
      have s5 := hT2.size
      have B5 : Below W.heap.size W w5 := (B3.trans (hb4.mono s3)).trans (hT2.below (by omega) (fun i hi e => by have := hge i e; omega))
      have hft2 : ∀ i, Ft2 i → W.heap.size ≤ i := fun i hi => by
        by_cases hlt : i < w4.heap.size
        · have := hge i (hf2 i hlt hi)
          omega
        · omega
      have hI0 : FillI W w3.heap.size Dk L G sz ll 0 w5 := ⟨[], [], Ft2, h5, by simp, fun j s hj hl => by simp at hl, by simp, hlow2, hft2, B5, by omega, by omega, by omega⟩
      have HI0 := Lib.hid hI0
      have hll : ll.length ≤ 20 := (few_len hf).1
      clear ho h5 hI0 hT2
      go_wp2_with fail
      go_loopw [40] (fun i wr => ∃ k : Nat, k ≤ ll.length ∧ i = .int .i64 k ∧ FillI W w3.heap.size Dk L G sz ll k wr) (fun i _ => ll.length - (intOf i).toNat)
      case atStart => exact ⟨0, Nat.zero_le _, rfl, HI0.out⟩
      case round =>
        obtain ⟨k, hk, rfl, hI⟩ := hrel
        have hbw : Below W.heap.size W wr := by
          obtain ⟨S0, s, Ft, h1, h2, h3, h4, h5, h6, h7, h8, h9, h10⟩ := hI
          exact h7
        have hRw := (hR.below hbw).more hbw.size
        by_cases hlt : k < ll.length
        · obtain ⟨ad, Ak, ck, rfl, _, hcell, hck, hm, hbt⟩ := hRw.at_ hlt
          have hnx := Lib.hid (fill_next hI hf hlt Ak ck hbt hck hm)
          clear hI hbt hbw hRw
          generalize ll.getD k [] = r at *
          go_wp2_with fail
          refine hnx.out.mono ?_
          rintro e w6 ⟨⟨p, q, rfl⟩, hI6⟩
          have HI6 := Lib.hid (hI6.below ((Below.refl _ w6).alloc (Nat.le_refl _) (.cells #[.int .i64 p, .int .i64 q] 37)))
          clear hI6 hnx
          go_wp2_with fail
          go_roundw
          case rel => exact ⟨k + 1, by omega, by go_num, HI6.out⟩
          case measure => simp [intOf]; omega
        · obtain rfl : k = ll.length := by omega
          have HI := Lib.hid hI
          have HRw := Lib.hid hRw
          clear hI hRw
          go_wp2_with fail
          obtain ⟨S0, s0, Ft3, ⟨F, hL, hF⟩, hfl, hfu, hSl, hlow3, hge3, hB3, hN3, hLg, hGg⟩ := HI.out
          generalize hS : S0 ++ [s0] = S at *
          have hSlen : S.length ≤ 21 := by rw [← hS]; simp; omega
          rw [List.take_length] at hfl
          have hsg := segments_L wr w3.heap.size Ft3 Dk _ F 1048576 _ 0 L G ⟨#[120]⟩ sz (gS S) hL (by rw [gS_length]; omega)
          rw [gS_length] at hsg
          have HG := Lib.hid hsg
          clear hsg
          refine HG.out.mono ?_
          rintro e w7 ⟨Ag, cg, rfl, hrow, hb7⟩
          have hL7 := hL.below hb7
          have hHas := has_of_own_I hrow (by rw [nums_length])
          have HH := Lib.hid hHas
          have B7 : Below W.heap.size W w7 := hbw.trans (hb7.mono hbw.size)
          have hR7 := (hR.below B7).more B7.size
          have HR7 := Lib.hid hR7
          have HL7 := Lib.hid hL7
          clear hrow hHas HG hR7 hL7 hL hSl hlow3 hge3 hB3 hN3 hLg hGg hlow2 hft2 B5
          go_wp2_with fail
          go_loopw [12, 57] (fun v i wr => ∃ j : Nat, j ≤ S.length ∧ i = .int .i64 j ∧ OwnR wr w7.heap.size v (S.take j).flatten ∧ Below w7.heap.size w7 wr) (fun _ i _ => S.length - (intOf i).toNat)
          case atStart => exact ⟨0, Nat.zero_le _, rfl, OwnR.nil _ _, Below.refl _ _⟩
          case round =>
            obtain ⟨j, hj, rfl, hO, hBw⟩ := hrel
            by_cases hlt : j < S.length
            · obtain ⟨s, hs'⟩ : ∃ s, S[j]? = some s := ⟨S[j], List.getElem?_eq_getElem hlt⟩
              have hnums : (nums S.length)[j]?.getD 0 = (j : Int) + 1 := by simp [nums, hlt]
              have hcell : ∃ b off, Ag = some ⟨b, off, none⟩ ∧ wr.cell? ⟨b, off + j, none⟩ = some (.int .i64 ((j : Int) + 1)) := by
                rcases HH.out with ⟨_, h0⟩ | ⟨b, off, cap, h1, h2, h3⟩
                · have := nums_length S.length
                  rw [h0] at this
                  simp at this
                  omega
                · injection h1 with h1
                  have h4 := h3 j (by rw [nums_length]; exact hlt)
                  rw [hnums] at h4
                  exact ⟨b, off, h1, (hBw.cell (p := ⟨b, off + j, none⟩) h2).trans h4⟩
              obtain ⟨b, off, rfl, hcj⟩ := hcell
              have hmem : s ∈ S := List.mem_of_getElem? hs'
              have hts : took s ≤ 6160 := by
                have h1 := took_flat_le hmem
                rw [hfl] at h1
                have h2 := few_took hf
                omega
              have hsr : ∀ r ∈ s, r.length ≤ 1000000 := fun r hr => by
                have h1 : r ∈ S.flatten := List.mem_flatten.2 ⟨s, hmem, hr⟩
                rw [hfl] at h1
                have := (few_len hf).2 r h1
                omega
              obtain ⟨sf, hfs⟩ := hF.1 j s hs'
              have hLw := HL7.out.below hBw
              have hra := Lib.hid (records_A wr w3.heap.size Ft3 Dk _ 1048576 _ L G ⟨#[120]⟩ sz S j s ⟨F, hLw, hF⟩ (by omega) nmOk_x hs' (by omega) hsr)
              have hfull : j + 1 < S.length → ¬ (took s : Int) < sz := fun h1 => by have := hfu j s hs' h1; omega
              have hvl : (S.take j).flatten.length ≤ 20 := by
                have h1 : (S.take j).flatten.length ≤ S.flatten.length := by
                  have h2 := congrArg List.length (congrArg List.flatten (List.take_append_drop j S))
                  rw [List.flatten_append, List.length_append] at h2
                  omega
                rw [hfl] at h1
                omega
              have hfn := flat_next hs'
              generalize (S.take j).flatten = fl at *
              have HFN := Lib.hid hfn
              clear hfn
              obtain ⟨Av, cv, rfl, _, _⟩ := hO.slice
              obtain ⟨vs, o1, o2, o3⟩ := hO
              have hsl20 : s.length ≤ 6160 := Nat.le_trans (took_len s) hts
              go_wp2_with fail
              refine hra.out.mono ?_
              rintro e w8 ⟨A8, c8, rfl, hO8, hb8⟩
              obtain ⟨us, u1, u2, u3⟩ := hO8
              have hbsz := hBw.size
              have o1' : w8.ownsRow w7.heap.size 26 1 (.slice Av fl.length cv) vs.length vs := by rw [o2]; exact own_kept o1 hb8 (Nat.le_refl _)
              have u1' := Cs.of_own u1
              have hone := one_of_own u2 u3
              have hbs8 := hb8.size
              have B8 := hBw.trans (hb8.mono hbsz)
              have HO3 := Lib.hid (fun (k : Nat) (r : List UInt8) (u : Value) (hr : fl[k]? = some r) (hu : vs[k]? = some u) => (own_kept (o3 k r u hr hu) hb8 (Nat.le_refl _) : Own5 w8 w7.heap.size u r))
              have HU3 := Lib.hid u3
              have O2 := Lib.hid o2
              have U2 := Lib.hid u2
              have hvs : vs.length + s.length ≤ 1000000000 := by omega
              have hsz8 : w7.heap.size ≤ w8.heap.size := by omega
              clear o1 o3 u1 u3 hra o2 u2
              go_wp2_with (at_builtin; refine appR (.tmp 62) (.tmp 65) rfl (by rfl) w7.heap.size _ vs us rfl o1' _ A8 s.length c8 rfl U2.out u1' hone hvs hsz8 ?_; intro v9 w9 o9 g9)
              have o1'' : w8.ownsRow w7.heap.size 26 1 (.slice Av fl.length cv) fl.length vs := by have := o1'; rw [O2.out] at this; exact this
              have hON := OwnR.joined hbsz o1'' O2.out HO3.out U2.out HU3.out o9 g9
              rw [← HFN.out] at hON
              have B9 := grown_below B8 (Nat.le_refl _) o1' g9
              have hL9 := HL7.out.below B9
              clear o9 g9 o1' o1'' HO3 HU3 u1' hone
              refine (file_any w9 ⟨#[120]⟩ (j + 1) (by omega) (by decide)).mono ?_
              rintro e w10 ⟨rfl, hb10⟩
              have hL10 := hL9.below hb10
              have hnbx := nameB_fileN nmOk_x (j + 1)
              have hrd := read_S w10 w3.heap.size Ft3 Dk _ F (fileN ⟨#[120]⟩ (j + 1)) 1048576 _ 0 false hL10.1 (nameB_size hnbx) (by rw [hfs]; show (YtidadjlhnlmfkaaGreatDoor.wr s).length ≤ 100000000; rw [wr_length]; omega)
              have hrdo : rdOf F false (fileN ⟨#[120]⟩ (j + 1)) = (YtidadjlhnlmfkaaGreatDoor.wr s, 0) := by unfold rdOf; rw [hfs, hnbx]; rfl
              rw [hrdo] at hrd
              have HRD := Lib.hid hrd
              have HON := Lib.hid hON
              have HB10 := Lib.hid (B9.trans (hb10.mono B9.size))
              clear hrd hON hL10 hL9 hnbx hrdo hfs
              go_wp2_with fail
              refine HRD.out.mono ?_
              rintro e w11 ⟨v11, rfl, ho11, hb11⟩
              obtain ⟨A11, c11, rfl, _, _⟩ := own_slice ho11
              have hwl := wr_length s
              have hb11' := HB10.out.trans (hb11.mono HB10.out.size)
              have HON2 := Lib.hid (HON.out.kept (hb10.trans (hb11.mono hb10.size)) (Nat.le_refl _))
              have HB11 := Lib.hid hb11'
              clear ho11 HRD hb11'
              generalize (YtidadjlhnlmfkaaGreatDoor.wr s).length = m at *
              subst hwl
              by_cases hj2 : j + 1 < S.length
              · have hns := hfull hj2
                have hjl : (j : Int) < (S.length : Int) - 1 := by omega
                go_wp2_with fail
                go_roundw
                case rel => exact ⟨j + 1, by omega, by go_num, HON2.out, HB11.out⟩
                case measure => simp [intOf]; omega
              · have hjl : ¬ (j : Int) < (S.length : Int) - 1 := by omega
                go_wp2_with fail
                go_roundw
                case rel => exact ⟨j + 1, by omega, by go_num, HON2.out, HB11.out⟩
                case measure => simp [intOf]; omega
            · obtain rfl : j = S.length := by omega
              rw [List.take_length, hfl] at hO
              obtain ⟨A9, c9, rfl, _, _⟩ := hO.slice
              have hsame := same_any A9 A _ c9 c ll _ hO.rws ((HR7.out.below hBw).more hBw.size) (by unfold maxLen; omega)
              have HS := Lib.hid hsame
              have HBw := Lib.hid hBw
              clear hsame hO hBw
              go_wp2_with fail
              refine HS.out.mono ?_
              rintro e w9 ⟨rfl, hb9⟩
              go_wp2_with fail
              go_ret
              have b7s := B7.size
              have bws := HBw.out.size
              exact ⟨rfl, (B7.trans (HBw.out.mono b7s)).trans (hb9.mono (by omega))⟩
end Go.Proofs.YtidadjlhnlmfkaaGreatDoor
/- A log's calls where the power fails. Conditions: as stated at each. -/
namespace Go.Proofs.YtidadjlhnlmfkaaGreatDoor
open Go.RowKit Go.Shelf Go Go.Maps
theorem sync_die (W : World) (N : Nat) (Ft : Nat → Prop) (Dk k : Nat) (F : Files) (s : ByteArray) (rm x : Int) (bs : List UInt8) (z : Nat)
    (hS : DiskS W N Ft Dk k F rm x 1 false) (hb : nameB s = true) (hf : F s = some (bs, z)) (hk : k < maxLen) (hx : 0 ≤ x) (hx2 : x ≤ 100000000) (hn0 : bs.length ≤ 100000000) :
    Calls Tryz.prog 59 #[.pointer (some ⟨Dk, 0, none⟩), .string s] W fun e w' => e = .returned (.int .i64 10) ∧ DiskS w' N (NewFt Ft W w') Dk (k + 1) F rm x 1 true ∧ Tn Ft W w' := by
  refine (sync_S W N Ft Dk k F s rm x 1 bs z hS hb hf hk hx hx2 hn0 (by omega)).mono ?_
  rintro e w' ⟨rfl, hp⟩
  unfold After at hp
  rw [if_pos rfl, decide_eq_true rfl] at hp
  exact ⟨rfl, hp.1, hp.2⟩
theorem create_die (W : World) (N : Nat) (Ft : Nat → Prop) (Dk k : Nat) (F : Files) (s : ByteArray) (rm x : Int)
    (hS : DiskS W N Ft Dk k F rm x 1 false) (hb : nameB s = true) (hf : F s = none) (hk : k < maxLen) (hx : 0 ≤ x) (hx2 : x ≤ 100000000) :
    Calls Tryz.prog 71 #[.pointer (some ⟨Dk, 0, none⟩), .string s] W fun e w' => e = .returned (.int .i64 10) ∧ DiskS w' N (NewFt Ft W w') Dk (k + 1) F rm x 1 true ∧ Tn Ft W w' := by
  refine (create_S W N Ft Dk k F s rm x 1 hS hb hf hk hx hx2 (by omega)).mono ?_
  rintro e w' ⟨rfl, hp⟩
  unfold Made at hp
  rw [if_pos rfl, decide_eq_true rfl] at hp
  exact ⟨rfl, hp.1, hp.2⟩
theorem append_die (W : World) (N : Nat) (Ft : Nat → Prop) (Dk k : Nat) (F : Files) (s : ByteArray) (rm x : Int) (A : Option Addr) (B c : Nat) (bs : List UInt8) (z : Nat) (news : List UInt8)
    (hS : DiskS W N Ft Dk k F rm x 1 false) (hb : nameB s = true) (hf : F s = some (bs, z)) (hk : k < maxLen) (hx : 0 ≤ x) (hx2 : x ≤ 100000000) (hn0 : bs.length ≤ 100000000) (hm : news.length ≤ 100000000) (hr0 : x + news.length ≤ rm)
    (hN : N ≤ W.heap.size) (hA : Bts W B A news) (hB : B ≤ W.heap.size) :
    Calls Tryz.prog 29 #[.pointer (some ⟨Dk, 0, none⟩), .string s, .slice A news.length c] W fun e w' => e = .returned (.int .i64 10) ∧ DiskS w' N (NewFt Ft W w') Dk (k + 1) (F.upd s (some (bs ++ news, z))) rm (x + news.length) 1 true ∧ Tn Ft W w' := by
  have h := append_S W N Ft Dk k F s rm x 1 A B c news hS hb hk hx hx2 (by rw [hf]; exact hn0) hm hr0 hN hA hB (by omega)
  rw [hf] at h
  refine h.mono ?_
  rintro e w' ⟨rfl, hp⟩
  unfold After at hp
  rw [decide_eq_true rfl] at hp
  exact ⟨rfl, hp.1, hp.2⟩
set_option maxHeartbeats 1600000 in
set_option maxRecDepth 20000 in
theorem lsync_die (W : World) (N : Nat) (Ft : Nat → Prop) (Dk k : Nat) (F : Files) (rm x : Int) (L G : Nat) (nm : ByteArray) (sz : Int) (g : List (Nat × Nat)) (bs : List UInt8) (z : Nat)
    (h : LogS W N Ft Dk k F rm x 1 false L G nm sz g false) (hl : g.length ≤ 999999) (hn : nmOk nm) (hf : F (fileN nm g.length) = some (bs, z)) (hbs : bs.length ≤ 100000000) (hk : k < maxLen) (hx : 0 ≤ x) (hx2 : x ≤ 100000000) :
    Calls Tryz.prog 31 #[.pointer (some ⟨L, 0, none⟩)] W fun e w' => e = bad 10 ∧ LgPost W N Ft Dk (k + 1) F rm x 1 true L G nm sz g true w' := by
  have c0 := BlkIs.cell h.2.1 0
  have c4 := BlkIs.cell h.2.1 4
  have hlt := h.ltL
  have hn6 : nm.size ≤ 1000000 := by have := hn.1; omega
  have hnb := nameB_fileN hn g.length
  have hnL := h.2.2.2.1
  go_enter Tryz.func31, Tryz.ntmps31
  go_wp2_with fail
  have hA : Below W.heap.size W W.drew := (Below.refl _ W).drew
  have hD := h.below hA
  go_region_held3 (fun w' => w'.cell? ⟨L, 0, none⟩ = some (.pointer (some ⟨Dk, 0, none⟩)) ∧ w'.cell? ⟨L, 4, none⟩ = some (.int .i64 (g.length : Nat)))
    (first
      | go_keep
      | exact ⟨(hb1.cell (p := ⟨L, 0, none⟩) hlt).trans c0, (hb1.cell (p := ⟨L, 4, none⟩) hlt).trans c4⟩
      | exact ⟨BlkIs.cell hE.2.1 0, BlkIs.cell hE.2.1 4⟩)
    (first
      | (go_at_call 30; refine (lfile_any _ L Dk nm sz G _ false g.length hD.2.1 hl hn6).mono ?_; rintro e w1 ⟨rfl, hb1⟩)
      | (go_at_call 59; have hC := hD.below hb1; refine (sync_die w1 N Ft Dk k F _ rm x bs z hC.1 hnb hf hk hx hx2 hbs).mono ?_; rintro e w2 ⟨rfl, hD2, hT2⟩; have hE := hC.disk hD2 hT2 (Nat.le_succ k)))
  have HE := Lib.hid hE
  have hf5 := BlkIs.froz hE.2.1 5
  have c5 := BlkIs.cell hE.2.1 5
  have hB1 := hA.trans hb1
  have hT := ((Tn.of_below (p := Ft) hB1).trans hT2)
  have HT := Lib.hid (OwnL.of (L := L) (G := G) hT)
  clear hT hT2 hE hD2 hC hD
  go_wp2_with (go_at_call 26; refine (must_bad _ 10 (by decide)).mono ?_; rintro e w' ⟨rfl, rfl⟩; unfold bad)
  exact ⟨rfl, rfl, LgPost.up hnL hlt h.2.2.2.2 h.ltG hB1.size (Nat.le_of_eq (size_set _ _ _).symm) (HE.out.set ⟨rfl, rfl⟩) (HT.out.setCell (.inl (.inr (.inl rfl))) _)⟩
theorem begin_end {W w1 w2 : World} {N Dk k L G : Nat} {Ft : Nat → Prop} {F : Files} {rm x : Int} {nm : ByteArray} {sz : Int} {g : List (Nat × Nat)} (h : LogS W N Ft Dk k F rm x 1 false L G nm sz g false) (hb1 : Below W.drew.heap.size W.drew w1)
    (hD2 : DiskS w2 N (NewFt Ft w1 w2) Dk (k + 1) F rm x 1 true) (hT2 : Tn Ft w1 w2) : LgPost W N Ft Dk (k + 1) F rm x 1 true L G nm sz g false w2 := by
  have hB1 : Below W.heap.size W w1 := ((Below.refl _ W).drew).trans hb1
  exact LgPost.up h.2.2.2.1 h.ltL h.2.2.2.2 h.ltG hB1.size (Nat.le_refl _) ((h.below hB1).disk hD2 hT2 (Nat.le_succ k)) (OwnL.of ((Tn.of_below hB1).trans hT2))
set_option maxHeartbeats 1600000 in
set_option maxRecDepth 20000 in
theorem begin_die (W : World) (N : Nat) (Ft : Nat → Prop) (Dk k : Nat) (F : Files) (rm x : Int) (L G : Nat) (nm : ByteArray) (sz : Int) (g : List (Nat × Nat))
    (h : LogS W N Ft Dk k F rm x 1 false L G nm sz g false) (hl : g.length < 999999) (hn : nmOk nm) (hf : F (fileN nm (g.length + 1)) = none) (hk : k + 1 < maxLen) (hx : 0 ≤ x) (hx2 : x ≤ 100000000) :
    Calls Tryz.prog 54 #[.pointer (some ⟨L, 0, none⟩), .int .i64 ((g.length : Int) + 1)] W fun e w' => e = bad 10 ∧ LgPost W N Ft Dk (k + 1) F rm x 1 true L G nm sz g false w' := by
  have c0 := BlkIs.cell h.2.1 0
  have hlt := h.ltL
  have hn6 : nm.size ≤ 1000000 := by have := hn.1; omega
  have hnb := nameB_fileN hn (g.length + 1)
  have hnL := h.2.2.2.1
  go_enter Tryz.func54, Tryz.ntmps54
  go_wp2_with fail
  have hA : Below W.heap.size W W.drew := (Below.refl _ W).drew
  have hD := h.below hA
  have hkeep := hD.1
  refine wp_region_any (by kernel_rfl) ?_
  try (change wpAny _ _ _ _ _ _ _ (World.drew _))
  refine wpAny_take (i := 0) (v := .pointer (some ⟨L, 0, none⟩)) rfl (by kernel_rfl) (by kernel_rfl) (by kernel_rfl) (fun _ _ _ h => h) (Or.inl ⟨by rfl, fun w => by first | (go_simp; done) | (go_simp; with_reducible rfl)⟩) ?_
  refine wpAny_take (i := 1) (v := .pointer (some ⟨L, 0, none⟩)) rfl (by kernel_rfl) (by kernel_rfl) (by kernel_rfl) (fun _ _ _ h => h) (Or.inl ⟨by rfl, fun w => by first | (go_simp; done) | (go_simp; with_reducible rfl)⟩) ?_
  refine wpAny_take (i := 2) (v := .pointer (some ⟨L, 0, none⟩)) rfl (by kernel_rfl) (by kernel_rfl) (by kernel_rfl) (fun _ _ _ h => h) (Or.inl ⟨by rfl, fun w => by first | (go_simp; done) | (go_simp; with_reducible rfl)⟩) ?_
  refine wpAny_take (i := 4) (v := .pointer (some ⟨L, 0, none⟩)) rfl (by kernel_rfl) (by kernel_rfl) (by kernel_rfl) (fun _ _ _ h => h) (Or.inl ⟨by rfl, fun w => by first | (go_simp; done) | (go_simp; with_reducible rfl)⟩) ?_
  refine wpAny_take (i := 5) (v := .int .i64 ((g.length : Int) + 1)) rfl (by kernel_rfl) (by kernel_rfl) (by kernel_rfl) (fun _ _ _ h => h) (Or.inl ⟨by rfl, fun w => by first | (go_simp; done) | (go_simp; with_reducible rfl)⟩) ?_
  refine wpAny_ready (rs := [3, 6]) (by kernel_rfl) (by simp) ?_
  refine AllReady.cons rfl (fun K hK => ?_) (AllReady.cons rfl (fun K hK => ?_) AllReady.nil)
  · go_simp
    try (refine hK _ _ ?_; clear hK K)
    refine wpAny_ready (rs := [6]) (by kernel_rfl) (by simp) ?_
    refine AllReady.cons rfl (fun K hK => ?_) AllReady.nil
    go_simp
    go_wp2_with (go_at_call 30; refine (lfile_any _ L Dk nm sz G _ false (g.length + 1) (LogB.alk hD.2.1 rfl) (by omega) hn6).mono ?_; rintro e w1 ⟨rfl, hb1⟩; have c0' := (hb1.cell (p := ⟨L, 0, none⟩) hlt).trans c0)
    try (refine hK _ _ ?_; clear hK K)
    refine wpAny_ready (rs := [7]) (by kernel_rfl) (by simp) ?_
    refine AllReady.cons rfl (fun K hK => ?_) AllReady.nil
    go_simp
    go_wp2_with (go_at_call 71; have hC := hD.below hb1; refine (create_die w1 N Ft Dk k F _ rm x hC.1 hnb hf (by omega) hx hx2).mono ?_; rintro e w2 ⟨rfl, hD2, hT2⟩)
    try (refine hK _ _ ?_; clear hK K)
    refine wpAny_ready (rs := [8]) (by kernel_rfl) (by simp) ?_
    refine AllReady.cons rfl (fun K hK => ?_) AllReady.nil
    go_simp
    go_wp2_with (go_at_call 26; refine (must_bad _ 10 (by decide)).mono ?_; rintro e w3 ⟨rfl, rfl⟩; unfold bad)
    exact ⟨rfl, rfl, begin_end h hb1 hD2 hT2⟩
  · go_simp
    go_wp2_with (go_at_call 30; refine (lfile_any _ L Dk nm sz G _ false (g.length + 1) (LogB.alk hD.2.1 rfl) (by omega) hn6).mono ?_; rintro e w1 ⟨rfl, hb1⟩; have c0' := (hb1.cell (p := ⟨L, 0, none⟩) hlt).trans c0)
    try (refine hK _ _ ?_; clear hK K)
    refine wpAny_ready (rs := [3]) (by kernel_rfl) (by simp) ?_
    refine AllReady.cons rfl (fun K hK => ?_) AllReady.nil
    go_simp
    try (refine hK _ _ ?_; clear hK K)
    refine wpAny_ready (rs := [7]) (by kernel_rfl) (by simp) ?_
    refine AllReady.cons rfl (fun K hK => ?_) AllReady.nil
    go_simp
    go_wp2_with (go_at_call 71; have hC := hD.below hb1; refine (create_die w1 N Ft Dk k F _ rm x hC.1 hnb hf (by omega) hx hx2).mono ?_; rintro e w2 ⟨rfl, hD2, hT2⟩)
    try (refine hK _ _ ?_; clear hK K)
    refine wpAny_ready (rs := [8]) (by kernel_rfl) (by simp) ?_
    refine AllReady.cons rfl (fun K hK => ?_) AllReady.nil
    go_simp
    go_wp2_with (go_at_call 26; refine (must_bad _ 10 (by decide)).mono ?_; rintro e w3 ⟨rfl, rfl⟩; unfold bad)
    exact ⟨rfl, rfl, begin_end h hb1 hD2 hT2⟩
end Go.Proofs.YtidadjlhnlmfkaaGreatDoor
