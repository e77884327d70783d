/- The walk of SeglogFills. Conditions: none but that the input is read. -/
import Derived.Test.YtidadjlhnlmfkaaGreatDoorSlAwake
import Derived.Test.YtidadjlhnlmfkaaGreatDoorSlFew
import Derived.Test.YtidadjlhnlmfkaaGreatDoorFlSame
namespace Go.Proofs.YtidadjlhnlmfkaaGreatDoor
open Go.RowKit Go.Shelf Go
/-- all segments but the last one are full. -/
def FullS (sz : Int) (S : Segs) : Prop := ∀ (j : Nat) s, S[j]? = some s → j + 1 < S.length → sz ≤ (took s : Int)
/-- what stands when k records have been appended. -/
def FillI (W : World) (N : Nat) (Dk L G : Nat) (sz : Int) (ll : List (List UInt8)) (k : Nat) (wr : World) : Prop :=
  ∃ S0 s Ft, AbsS wr N Ft Dk (2 + 5 * k) 1048576 (took (ll.take k) : Nat) L G ⟨#[120]⟩ sz (S0 ++ [s]) ∧ (S0 ++ [s]).flatten = ll.take k ∧ FullS sz (S0 ++ [s]) ∧ S0.length ≤ k ∧ Low wr Ft ∧ (∀ i, Ft i → W.heap.size ≤ i) ∧ Below W.heap.size W wr ∧ N ≤ wr.heap.size ∧ W.heap.size ≤ L ∧ W.heap.size ≤ G
theorem take_flat {ll : List (List UInt8)} {k : Nat} (hk : k < ll.length) : ll.take (k + 1) = ll.take k ++ [ll.getD k []] := by
  rw [List.take_succ_eq_append_getElem hk, List.getD, List.getElem?_eq_getElem hk]; rfl
theorem full_stay {sz : Int} {S0 : Segs} {s t : List (List UInt8)} (h : FullS sz (S0 ++ [s])) : FullS sz (S0 ++ [t]) := fun j u hj hl => by
  simp at hl
  refine h j u ?_ (by simp; omega)
  rw [List.getElem?_append_left (by omega)] at hj ⊢
  exact hj
theorem full_roll {sz : Int} {S0 : Segs} {s t : List (List UInt8)} (h : FullS sz (S0 ++ [s])) (hs : sz ≤ (took s : Int)) : FullS sz (S0 ++ [s] ++ [t]) := fun j u hj hl => by
  simp at hl
  by_cases e : j = S0.length
  · subst e
    have : s = u := by simpa using hj
    rw [← this]
    exact hs
  · refine h j u ?_ (by simp; omega)
    rw [List.getElem?_append_left (by simp; omega)] at hj
    exact hj
theorem took_flat_le {S : Segs} {s : List (List UInt8)} (h : s ∈ S) : took s ≤ took S.flatten := by
  induction S with
  | nil => simp at h
  | cons a t ih =>
    rw [List.flatten_cons, took_append]
    rcases List.mem_cons.1 h with rfl | h
    · omega
    · have := ih h
      omega
theorem fill_next {W : World} {N Dk L G : Nat} {sz : Int} {ll : List (List UInt8)} {k : Nat} {wr : World} (h : FillI W N Dk L G sz ll k wr) (hf : fewB ll = true) (hk : k < ll.length) (A : Option Addr) (cp : Nat) (hA : Bts wr wr.heap.size A (ll.getD k [])) (hcp : (ll.getD k []).length ≤ cp) (hcm : cp ≤ maxLen) :
    Calls Tryz.prog 10 #[.pointer (some ⟨L, 0, none⟩), .slice A (ll.getD k []).length cp] wr fun e w' => (∃ p q, e = .returned (.tuple #[.agg #[.int .i64 p, .int .i64 q], .int .i64 0])) ∧ FillI W N Dk L G sz ll (k + 1) w' := by
  obtain ⟨S0, s, Ft, h1, h2, h3, h4, h5, h6, h7, h8, h9, h10⟩ := h
  obtain ⟨f1, f2⟩ := few_len hf
  have f3 := few_took hf
  have hmem : ll.getD k [] ∈ ll := by rw [List.getD, List.getElem?_eq_getElem hk]; exact List.getElem_mem hk
  have hr := f2 _ hmem
  have htk : took (ll.take k) ≤ took ll := by
    have := took_append (ll.take k) (ll.drop k)
    rw [List.take_append_drop] at this
    omega
  have hts : took s ≤ took (ll.take k) := by rw [← h2]; exact took_flat_le (by simp)
  have hnx := take_flat hk
  refine (append_A wr N Ft Dk (2 + 5 * k) 1048576 _ L G ⟨#[120]⟩ sz S0 s A cp (ll.getD k []) h1 h5 (by omega) nmOk_x (by omega) (by unfold maxLen; omega) (by omega) (by omega) (by omega) (by omega) (by omega) h8 hA hcp hcm).mono ?_
  rintro e w' ⟨rfl, q1, q2⟩
  have htn : (took (ll.take k) : Int) + (8 + (ll.getD k []).length : Nat) = (took (ll.take (k + 1)) : Nat) := by
    rw [hnx, took_append]
    simp [took]
  rw [htn, show 2 + 5 * k + 5 = 2 + 5 * (k + 1) from by omega] at q1
  have hz := q2.size
  have hft : ∀ i, NewFt Ft wr w' i → W.heap.size ≤ i := fun i hi => hi.elim (h6 i) (fun e => by have := h7.size; omega)
  have hbel : Below W.heap.size W w' := h7.trans (q2.below h7.size (fun i hi e => by
    rcases e with e | rfl | rfl
    · have := h6 i e
      omega
    · omega
    · omega))
  unfold addL at q1
  by_cases hs : (took s : Int) < sz
  · rw [if_pos hs] at q1 ⊢
    exact ⟨⟨_, _, rfl⟩, S0, s ++ [ll.getD k []], _, q1, by rw [hnx, ← h2]; simp, full_stay h3, by omega, h5.new hz, hft, hbel, by omega, h9, h10⟩
  · rw [if_neg hs] at q1 ⊢
    exact ⟨⟨_, _, rfl⟩, S0 ++ [s], [ll.getD k []], _, q1, by rw [hnx, ← h2]; simp, full_roll h3 (by omega), by simp; omega, h5.new hz, hft, hbel, by omega, h9, h10⟩
theorem FillI.below {W : World} {N Dk L G : Nat} {sz : Int} {ll : List (List UInt8)} {k : Nat} {wr w' : World} (h : FillI W N Dk L G sz ll k wr) (hb : Below wr.heap.size wr w') : FillI W N Dk L G sz ll k w' := by
  obtain ⟨S0, s, Ft, ⟨F, q1, q2⟩, h2, h3, h4, h5, h6, h7, h8, h9, h10⟩ := h
  exact ⟨S0, s, Ft, ⟨F, q1.below hb, q2⟩, h2, h3, h4, h5.up hb.size, h6, h7.trans (hb.mono h7.size), Nat.le_trans h8 hb.size, h9, h10⟩
theorem RowVs.more {w : World} {B B' : Nat} {vs : List Value} {ll : List (List UInt8)} (h : RowVs w B vs ll) (hB : B ≤ B') : RowVs w B' vs ll := ⟨h.1, fun k r u hr hu => by
  obtain ⟨A, c, h1, h2, h3, h4⟩ := h.2 k r u hr hu
  exact ⟨A, c, h1, h2, h3, h4.more hB⟩⟩
theorem rowVs_of_own {w : World} {N : Nat} {v : Value} {ll : List (List UInt8)} (h : OwnR w N v ll) : ∃ vs A c, v = .slice A ll.length c ∧ Cs w w.heap.size A vs ∧ RowVs w w.heap.size vs ll := by
  have h0 := h
  obtain ⟨A, c, rfl, _, _⟩ := h.slice
  obtain ⟨vs, h1, h2, h3⟩ := h0
  refine ⟨vs, A, c, rfl, Cs.of_own h1, h2, fun k r u hr hu => ?_⟩
  have ho := h3 k r u hr hu
  obtain ⟨A', c', rfl, q1, q2⟩ := own_slice ho
  exact ⟨A', c', rfl, q1, q2, Own5.bts ho⟩
/-- what an append of many rows leaves. -/
theorem OwnR.joined {w w' : World} {N M : Nat} {v v' : Value} {ll mm : List (List UInt8)} {vs us : List Value} (hM : N ≤ M) (h1 : w.ownsRow N 26 1 v ll.length vs) (h2 : vs.length = ll.length) (h3 : ∀ (k : Nat) r u, ll[k]? = some r → vs[k]? = some u → Own5 w N u r)
    (u2 : us.length = mm.length) (u3 : ∀ (k : Nat) r u, mm[k]? = some r → us[k]? = some u → Own5 w M u r) (h' : w'.ownsRow N 26 1 v' (vs ++ us).length (vs ++ us)) (hg : w.grownBy w' v.ownBlock) : OwnR w' N v' (ll ++ mm) := by
  have kept : ∀ u r, Own5 w N u r → Own5 w' N u r := fun u r ho => World.ownsRow.kept ho hg (own_ne_own ho h1 (by decide))
  have hl : (vs ++ us).length = (ll ++ mm).length := by simp [h2, u2]
  refine ⟨vs ++ us, by rw [hl] at h'; exact h', hl, fun k r u hr hu => ?_⟩
  by_cases hk : k < ll.length
  · rw [List.getElem?_append_left hk] at hr
    rw [List.getElem?_append_left (by omega)] at hu
    exact kept u r (h3 k r u hr hu)
  · rw [List.getElem?_append_right (by omega)] at hr
    rw [List.getElem?_append_right (by omega), h2] at hu
    exact kept u r (own_more (u3 _ r u hr hu) hM)
theorem one_of_own {w : World} {N : Nat} {us : List Value} {mm : List (List UInt8)} (u2 : us.length = mm.length) (u3 : ∀ (k : Nat) r u, mm[k]? = some r → us[k]? = some u → Own5 w N u r) : ∀ u ∈ us, u.oneCell' = true := by
  intro u hu
  obtain ⟨k, hk, e⟩ := List.getElem_of_mem hu
  have hk2 : k < mm.length := by omega
  have := u3 k mm[k] u (List.getElem?_eq_getElem hk2) (by rw [List.getElem?_eq_getElem hk, e])
  obtain ⟨A, c, rfl, _⟩ := own_slice this
  rfl
theorem flat_next {S : Segs} {j : Nat} {s : List (List UInt8)} (h : S[j]? = some s) : (S.take (j + 1)).flatten = (S.take j).flatten ++ s := by
  obtain ⟨hj, e⟩ := List.getElem?_eq_some_iff.1 h
  rw [List.take_succ_eq_append_getElem hj, List.flatten_append, e]
  simp
set_option maxRecDepth 20000 in
set_option maxHeartbeats 3200000 in
theorem fills_any (W : World) (sz : Int) (A : Option Addr) (c : Nat) (ll : List (List UInt8)) (hR : Rws W W.heap.size A ll) (hl : ll.length ≤ c) (hc : c ≤ maxLen) :
    Calls Tryz.prog 5 #[.int .i64 sz, .slice A ll.length c] W fun e w' => e = .returned (.bool true) ∧ Below W.heap.size W w' := by
  have hx0 : ∀ w (v u : Value), (Instr.extract (.tuple #[v, u]) 0).run Tryz.prog w = .ok v w := fun _ _ _ => by kernel_rfl
  have hx1 : ∀ w (v u : Value), (Instr.extract (.tuple #[v, u]) 1).run Tryz.prog w = .ok u w := fun _ _ _ => by kernel_rfl
  go_enter Tryz.func5, Tryz.ntmps5
  go_wp2_with fail
  refine (awake_any W).mono ?_
  rintro e w1 ⟨rfl, hb1⟩
  have nA := BlkIs.new w1 28 #[.int .i64 0, .slice none 0 0, .slice A ll.length c, .int .i64 0, .slice none 0 0]
  have B2 : Below W.heap.size W (w1.alloc (.cells #[.int .i64 0, .slice none 0 0, .slice A ll.length c, .int .i64 0, .slice none 0 0] 28)) := hb1.alloc hb1.size _
  go_wp2_with fail
  generalize (w1.alloc (.cells #[.int .i64 0, .slice none 0 0, .slice A ll.length c, .int .i64 0, .slice none 0 0] 28)) = w2 at *
  refine (few_one w2 w1.heap.size A c ll nA ((hR.below B2).more B2.size) (by omega)).mono ?_
  rintro e w3 ⟨rfl, hb3⟩
  have B3 := B2.trans (hb3.mono B2.size)
  cases hf : fewB ll with
  | false =>
    go_wp2_with fail
    go_ret
    exact ⟨rfl, B3⟩
  | true =>
    by_cases hs : sz < 1
    · go_wp2_with fail
      go_ret
      exact ⟨rfl, B3⟩
    · go_wp2_with fail
      refine (new_A w3 1048576 (by omega)).mono ?_
      rintro e w4 ⟨Dk, Ft, rfl, h4, hlow, hge, hb4⟩
      have ho := Lib.hid (open_A w4 w3.heap.size Ft Dk 1048576 ⟨#[120]⟩ sz h4 hlow nmOk_x (by omega))
      clear h4
      go_wp2_with fail
      refine ho.out.mono ?_
      rintro e w5 ⟨L, G, Ft2, rfl, h5, hlow2, hf2, hL2, hG2, hT2⟩
      have s3 := B3.size
      have s4 := hb4.size
      have s5 := hT2.size
      have B5 : Below W.heap.size W w5 := (B3.trans (hb4.mono s3)).trans (hT2.below (by omega) (fun i hi e => by have := hge i e; omega))
      have hft2 : ∀ i, Ft2 i → W.heap.size ≤ i := fun i hi => by
        by_cases hlt : i < w4.heap.size
        · have := hge i (hf2 i hlt hi)
          omega
        · omega
      have hI0 : FillI W w3.heap.size Dk L G sz ll 0 w5 := ⟨[], [], Ft2, h5, by simp, fun j s hj hl => by simp at hl, by simp, hlow2, hft2, B5, by omega, by omega, by omega⟩
      have HI0 := Lib.hid hI0
      have hll : ll.length ≤ 20 := (few_len hf).1
      clear ho h5 hI0 hT2
      go_wp2_with fail
      go_loopw [40] (fun i wr => ∃ k : Nat, k ≤ ll.length ∧ i = .int .i64 k ∧ FillI W w3.heap.size Dk L G sz ll k wr) (fun i _ => ll.length - (intOf i).toNat)
      case atStart => exact ⟨0, Nat.zero_le _, rfl, HI0.out⟩
      case round =>
        obtain ⟨k, hk, rfl, hI⟩ := hrel
        have hbw : Below W.heap.size W wr := by
          obtain ⟨S0, s, Ft, h1, h2, h3, h4, h5, h6, h7, h8, h9, h10⟩ := hI
          exact h7
        have hRw := (hR.below hbw).more hbw.size
        by_cases hlt : k < ll.length
        · obtain ⟨ad, Ak, ck, rfl, _, hcell, hck, hm, hbt⟩ := hRw.at_ hlt
          have hnx := Lib.hid (fill_next hI hf hlt Ak ck hbt hck hm)
          clear hI hbt hbw hRw
          generalize ll.getD k [] = r at *
          go_wp2_with fail
          refine hnx.out.mono ?_
          rintro e w6 ⟨⟨p, q, rfl⟩, hI6⟩
          have HI6 := Lib.hid (hI6.below ((Below.refl _ w6).alloc (Nat.le_refl _) (.cells #[.int .i64 p, .int .i64 q] 37)))
          clear hI6 hnx
          go_wp2_with fail
          go_roundw
          case rel => exact ⟨k + 1, by omega, by go_num, HI6.out⟩
          case measure => simp [intOf]; omega
        · obtain rfl : k = ll.length := by omega
          have HI := Lib.hid hI
          have HRw := Lib.hid hRw
          clear hI hRw
          go_wp2_with fail
          obtain ⟨S0, s0, Ft3, ⟨F, hL, hF⟩, hfl, hfu, hSl, hlow3, hge3, hB3, hN3, hLg, hGg⟩ := HI.out
          generalize hS : S0 ++ [s0] = S at *
          have hSlen : S.length ≤ 21 := by rw [← hS]; simp; omega
          rw [List.take_length] at hfl
          have hsg := segments_L wr w3.heap.size Ft3 Dk _ F 1048576 _ 0 L G ⟨#[120]⟩ sz (gS S) hL (by rw [gS_length]; omega)
          rw [gS_length] at hsg
          have HG := Lib.hid hsg
          clear hsg
          refine HG.out.mono ?_
          rintro e w7 ⟨Ag, cg, rfl, hrow, hb7⟩
          have hL7 := hL.below hb7
          have hHas := has_of_own_I hrow (by rw [nums_length])
          have HH := Lib.hid hHas
          have B7 : Below W.heap.size W w7 := hbw.trans (hb7.mono hbw.size)
          have hR7 := (hR.below B7).more B7.size
          have HR7 := Lib.hid hR7
          have HL7 := Lib.hid hL7
          clear hrow hHas HG hR7 hL7 hL hSl hlow3 hge3 hB3 hN3 hLg hGg hlow2 hft2 B5
          go_wp2_with fail
          go_loopw [12, 57] (fun v i wr => ∃ j : Nat, j ≤ S.length ∧ i = .int .i64 j ∧ OwnR wr w7.heap.size v (S.take j).flatten ∧ Below w7.heap.size w7 wr) (fun _ i _ => S.length - (intOf i).toNat)
          case atStart => exact ⟨0, Nat.zero_le _, rfl, OwnR.nil _ _, Below.refl _ _⟩
          case round =>
            obtain ⟨j, hj, rfl, hO, hBw⟩ := hrel
            by_cases hlt : j < S.length
            · obtain ⟨s, hs'⟩ : ∃ s, S[j]? = some s := ⟨S[j], List.getElem?_eq_getElem hlt⟩
              have hnums : (nums S.length)[j]?.getD 0 = (j : Int) + 1 := by simp [nums, hlt]
              have hcell : ∃ b off, Ag = some ⟨b, off, none⟩ ∧ wr.cell? ⟨b, off + j, none⟩ = some (.int .i64 ((j : Int) + 1)) := by
                rcases HH.out with ⟨_, h0⟩ | ⟨b, off, cap, h1, h2, h3⟩
                · have := nums_length S.length
                  rw [h0] at this
                  simp at this
                  omega
                · injection h1 with h1
                  have h4 := h3 j (by rw [nums_length]; exact hlt)
                  rw [hnums] at h4
                  exact ⟨b, off, h1, (hBw.cell (p := ⟨b, off + j, none⟩) h2).trans h4⟩
              obtain ⟨b, off, rfl, hcj⟩ := hcell
              have hmem : s ∈ S := List.mem_of_getElem? hs'
              have hts : took s ≤ 6160 := by
                have h1 := took_flat_le hmem
                rw [hfl] at h1
                have h2 := few_took hf
                omega
              have hsr : ∀ r ∈ s, r.length ≤ 1000000 := fun r hr => by
                have h1 : r ∈ S.flatten := List.mem_flatten.2 ⟨s, hmem, hr⟩
                rw [hfl] at h1
                have := (few_len hf).2 r h1
                omega
              obtain ⟨sf, hfs⟩ := hF.1 j s hs'
              have hLw := HL7.out.below hBw
              have hra := Lib.hid (records_A wr w3.heap.size Ft3 Dk _ 1048576 _ L G ⟨#[120]⟩ sz S j s ⟨F, hLw, hF⟩ (by omega) nmOk_x hs' (by omega) hsr)
              have hfull : j + 1 < S.length → ¬ (took s : Int) < sz := fun h1 => by have := hfu j s hs' h1; omega
              have hvl : (S.take j).flatten.length ≤ 20 := by
                have h1 : (S.take j).flatten.length ≤ S.flatten.length := by
                  have h2 := congrArg List.length (congrArg List.flatten (List.take_append_drop j S))
                  rw [List.flatten_append, List.length_append] at h2
                  omega
                rw [hfl] at h1
                omega
              have hfn := flat_next hs'
              generalize (S.take j).flatten = fl at *
              have HFN := Lib.hid hfn
              clear hfn
              obtain ⟨Av, cv, rfl, _, _⟩ := hO.slice
              obtain ⟨vs, o1, o2, o3⟩ := hO
              have hsl20 : s.length ≤ 6160 := Nat.le_trans (took_len s) hts
              go_wp2_with fail
              refine hra.out.mono ?_
              rintro e w8 ⟨A8, c8, rfl, hO8, hb8⟩
              obtain ⟨us, u1, u2, u3⟩ := hO8
              have hbsz := hBw.size
              have o1' : w8.ownsRow w7.heap.size 26 1 (.slice Av fl.length cv) vs.length vs := by rw [o2]; exact own_kept o1 hb8 (Nat.le_refl _)
              have u1' := Cs.of_own u1
              have hone := one_of_own u2 u3
              have hbs8 := hb8.size
              have B8 := hBw.trans (hb8.mono hbsz)
              have HO3 := Lib.hid (fun (k : Nat) (r : List UInt8) (u : Value) (hr : fl[k]? = some r) (hu : vs[k]? = some u) => (own_kept (o3 k r u hr hu) hb8 (Nat.le_refl _) : Own5 w8 w7.heap.size u r))
              have HU3 := Lib.hid u3
              have O2 := Lib.hid o2
              have U2 := Lib.hid u2
              have hvs : vs.length + s.length ≤ 1000000000 := by omega
              have hsz8 : w7.heap.size ≤ w8.heap.size := by omega
              clear o1 o3 u1 u3 hra o2 u2
              go_wp2_with (at_builtin; refine appR (.tmp 62) (.tmp 65) rfl (by rfl) w7.heap.size _ vs us rfl o1' _ A8 s.length c8 rfl U2.out u1' hone hvs hsz8 ?_; intro v9 w9 o9 g9)
              have o1'' : w8.ownsRow w7.heap.size 26 1 (.slice Av fl.length cv) fl.length vs := by have := o1'; rw [O2.out] at this; exact this
              have hON := OwnR.joined hbsz o1'' O2.out HO3.out U2.out HU3.out o9 g9
              rw [← HFN.out] at hON
              have B9 := grown_below B8 (Nat.le_refl _) o1' g9
              have hL9 := HL7.out.below B9
              clear o9 g9 o1' o1'' HO3 HU3 u1' hone
              refine (file_any w9 ⟨#[120]⟩ (j + 1) (by omega) (by decide)).mono ?_
              rintro e w10 ⟨rfl, hb10⟩
              have hL10 := hL9.below hb10
              have hnbx := nameB_fileN nmOk_x (j + 1)
              have hrd := read_S w10 w3.heap.size Ft3 Dk _ F (fileN ⟨#[120]⟩ (j + 1)) 1048576 _ 0 false hL10.1 (nameB_size hnbx) (by rw [hfs]; show (YtidadjlhnlmfkaaGreatDoor.wr s).length ≤ 100000000; rw [wr_length]; omega)
              have hrdo : rdOf F false (fileN ⟨#[120]⟩ (j + 1)) = (YtidadjlhnlmfkaaGreatDoor.wr s, 0) := by unfold rdOf; rw [hfs, hnbx]; rfl
              rw [hrdo] at hrd
              have HRD := Lib.hid hrd
              have HON := Lib.hid hON
              have HB10 := Lib.hid (B9.trans (hb10.mono B9.size))
              clear hrd hON hL10 hL9 hnbx hrdo hfs
              go_wp2_with fail
              refine HRD.out.mono ?_
              rintro e w11 ⟨v11, rfl, ho11, hb11⟩
              obtain ⟨A11, c11, rfl, _, _⟩ := own_slice ho11
              have hwl := wr_length s
              have hb11' := HB10.out.trans (hb11.mono HB10.out.size)
              have HON2 := Lib.hid (HON.out.kept (hb10.trans (hb11.mono hb10.size)) (Nat.le_refl _))
              have HB11 := Lib.hid hb11'
              clear ho11 HRD hb11'
              generalize (YtidadjlhnlmfkaaGreatDoor.wr s).length = m at *
              subst hwl
              by_cases hj2 : j + 1 < S.length
              · have hns := hfull hj2
                have hjl : (j : Int) < (S.length : Int) - 1 := by omega
                go_wp2_with fail
                go_roundw
                case rel => exact ⟨j + 1, by omega, by go_num, HON2.out, HB11.out⟩
                case measure => simp [intOf]; omega
              · have hjl : ¬ (j : Int) < (S.length : Int) - 1 := by omega
                go_wp2_with fail
                go_roundw
                case rel => exact ⟨j + 1, by omega, by go_num, HON2.out, HB11.out⟩
                case measure => simp [intOf]; omega
            · obtain rfl : j = S.length := by omega
              rw [List.take_length, hfl] at hO
              obtain ⟨A9, c9, rfl, _, _⟩ := hO.slice
              have hsame := same_any A9 A _ c9 c ll _ hO.rws ((HR7.out.below hBw).more hBw.size) (by unfold maxLen; omega)
              have HS := Lib.hid hsame
              have HBw := Lib.hid hBw
              clear hsame hO hBw
              go_wp2_with fail
              refine HS.out.mono ?_
              rintro e w9 ⟨rfl, hb9⟩
              go_wp2_with fail
              go_ret
              have b7s := B7.size
              have bws := HBw.out.size
              exact ⟨rfl, (B7.trans (HBw.out.mono b7s)).trans (hb9.mono (by omega))⟩
end Go.Proofs.YtidadjlhnlmfkaaGreatDoor
