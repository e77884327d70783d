/- path.Fold, the document's Lower, Fold. Conditions: as stated. -/
import Derived.Test.YtamjellnmlgbeaaPaRParse
import Derived.Laws.IdiomStrings
import Derived.Deep.RegionHeld
namespace Go.Proofs.Ytamjellnmlgbeaa
set_option maxRecDepth 100000
namespace Pa
open Go.RowKit Go
/-- block g of W holds these bytes first, and they may be written. -/
def Byt (W : World) (g : Nat) (l : List UInt8) : Prop := ∃ C fr, W.heap[g]? = some (.cells C 5 fr) ∧ (∀ j, j < l.length → C[j]? = some (.int .u8 ((l.getD j 0).toNat : Int))) ∧ l.length ≤ fr.1
theorem Byt.lt {W : World} {g : Nat} {l : List UInt8} (h : Byt W g l) : g < W.heap.size := by
  obtain ⟨C, fr, h1, _⟩ := h
  exact (Array.getElem?_eq_some_iff.1 h1).1
theorem Byt.cell {W : World} {g : Nat} {l : List UInt8} (h : Byt W g l) {j : Nat} (hj : j < l.length) : W.cell? ⟨g, j, none⟩ = some (.int .u8 ((l.getD j 0).toNat : Int)) := by
  obtain ⟨C, fr, h1, h2, _⟩ := h
  rw [cell_of_row W g j C _ fr h1]
  exact h2 j hj
theorem Byt.froz {W : World} {g : Nat} {l : List UInt8} (h : Byt W g l) {j : Nat} (hj : j < l.length) : W.frozen? ⟨g, j, none⟩ = false := by
  obtain ⟨C, fr, h1, h2, h3⟩ := h
  have : ¬ fr.1 ≤ j := by omega
  simp [World.frozen?, h1, this]
theorem Byt.set {W : World} {g : Nat} {l : List UInt8} (h : Byt W g l) (j : Nat) (c : UInt8) : Byt (W.setCell ⟨g, j, none⟩ (.int .u8 (c.toNat : Int))) g (l.set j c) := by
  obtain ⟨C, fr, h1, h2, h3⟩ := h
  refine ⟨C.setIfInBounds j (.int .u8 (c.toNat : Int)), fr, by simp [World.setCell, Array.getElem?_modify, h1], fun i hi => ?_, by simpa using h3⟩
  rw [List.length_set] at hi
  have hC := (Array.getElem?_eq_some_iff.1 (h2 i hi)).1
  rw [Array.getElem?_setIfInBounds]
  by_cases hij : j = i
  · subst hij
    rw [if_pos rfl, if_pos hC]
    simp [List.getD, hi]
  · rw [if_neg hij, h2 i hi]
    simp [List.getD, List.getElem?_set_ne hij]
theorem Byt.bts {W : World} {g : Nat} {l : List UInt8} (h : Byt W g l) : Bts W W.heap.size (some ⟨g, 0, none⟩) l := fun j u hj => by
  have hlt : j < l.length := by
    have := (List.getElem?_eq_some_iff.1 hj).1
    rwa [bv_length] at this
  rw [bv_get l j hlt] at hj
  injection hj with hj
  subst hj
  refine ⟨_, rfl, h.lt, ?_⟩
  have := h.cell hlt
  rwa [show (⟨g, 0, none⟩ : Addr).add j = ⟨g, j, none⟩ by simp [Addr.add]; rintro rfl; rfl]
/-- a text made bytes. -/
theorem run_byt (l : List UInt8) (w : World) : ∃ c w', (convert 9 54 (.string (str l))).run Try.prog w = .ok (.slice (some ⟨w.heap.size, 0, none⟩) l.length c) w' ∧ Byt w' w.heap.size l ∧ Below w.heap.size w w' := by
  have hrun := run_bytes_of_string (P := Try.prog) w 9 54 5 (str l) Try.underlying9 Try.underlying54 Try.underlying5
  rw [show (str l).size = l.length from str_size l] at hrun
  refine ⟨_, _, hrun, ⟨_, _, heap_alloc_new _ _, fun j hj => ?_, ?_⟩, ((Below.refl _ w).drew).alloc (Nat.le_refl _) _⟩
  · have hj' : j < (str l).data.size := by simpa [str] using hj
    rw [bytesRow_at _ _ j hj']
    simp [str, List.getD, hj]
  · simp [bytesRow, str]
/-- the letters from s up to k made small. -/
def lowK (s k : Nat) (l : List UInt8) : List UInt8 := (List.range l.length).map fun j => if s ≤ j ∧ j < k then lowB (l.getD j 0) else l.getD j 0
theorem lowK_length (s k : Nat) (l : List UInt8) : (lowK s k l).length = l.length := by simp [lowK]
theorem lowK_getD {s k j : Nat} {l : List UInt8} (hj : j < l.length) : (lowK s k l).getD j 0 = if s ≤ j ∧ j < k then lowB (l.getD j 0) else l.getD j 0 := by
  simp [lowK, List.getD, hj]
theorem getD_ext {a b : List UInt8} (h : a.length = b.length) (h2 : ∀ j, j < a.length → a.getD j 0 = b.getD j 0) : a = b := by
  apply List.ext_getElem h
  intro j h1 h3
  have := h2 j h1
  simpa [List.getD, h1, h3] using this
theorem lowK_start (s : Nat) (l : List UInt8) : lowK s s l = l := by
  apply getD_ext (lowK_length _ _ _)
  intro j hj
  rw [lowK_length] at hj
  rw [lowK_getD hj, if_neg (by omega)]
theorem lowK_next {s k : Nat} {l : List UInt8} (hs : s ≤ k) (hk : k < l.length) : (lowK s k l).set k (lowB (l.getD k 0)) = lowK s (k + 1) l := by
  apply getD_ext (by rw [List.length_set, lowK_length, lowK_length])
  intro j hj
  rw [List.length_set, lowK_length] at hj
  rw [lowK_getD hj]
  by_cases e : k = j
  · subst e
    rw [if_pos (by omega)]
    simp [List.getD, lowK_length, hk]
  · have : ((lowK s k l).set k (lowB (l.getD k 0))).getD j 0 = (lowK s k l).getD j 0 := by
      simp [List.getD, List.getElem?_set_ne e]
    rw [this, lowK_getD hj]
    by_cases c : s ≤ j ∧ j < k
    · rw [if_pos c, if_pos (by omega)]
    · rw [if_neg c, if_neg (by omega)]
theorem lowK_end {s k : Nat} {l : List UInt8} (hk : l.length ≤ k) : lowK s k l = l.take s ++ (l.drop s).map lowB := by
  apply getD_ext (by rw [lowK_length, List.length_append, List.length_map, List.length_take, List.length_drop]; omega)
  intro j hj
  rw [lowK_length] at hj
  rw [lowK_getD hj]
  by_cases c : s ≤ j
  · rw [if_pos ⟨c, by omega⟩]
    have h1 : (l.take s).length ≤ j := by rw [List.length_take]; omega
    have h2 : (l.take s).length = s := by rw [List.length_take]; omega
    simp only [List.getD]
    rw [List.getElem?_append_right h1, h2, List.getElem?_map, List.getElem?_drop, show s + (j - s) = j by omega, List.getElem?_eq_getElem hj]
    rfl
  · rw [if_neg (by omega)]
    simp only [List.getD]
    rw [List.getElem?_append_left (by rw [List.length_take]; omega), List.getElem?_take, if_pos (by omega)]
theorem low_all (l : List UInt8) : lowK 0 l.length l = l.map lowB := by rw [lowK_end (Nat.le_refl _)]; simp
theorem fold_end (l : List UInt8) : ∃ s, l.length = s + (dom l).length ∧ lowK s l.length l = foldS l := by
  rcases last_cases l with ⟨h, _⟩ | ⟨a, b, rfl, h, _⟩
  · refine ⟨l.length, by rw [(loc_no h).2]; rfl, ?_⟩
    rw [lowK_end (Nat.le_refl _), foldS_no h]
    simp
  · refine ⟨a.length + 1, by rw [(loc_at h).2]; simp; omega, ?_⟩
    rw [lowK_end (Nat.le_refl _), foldS_at h, show a ++ 64 :: b = (a ++ [64]) ++ b by simp, show a.length + 1 = (a ++ [64]).length by simp, List.take_left, List.drop_left]
    simp
theorem ret_str {a b : ByteArray} (h : a = b) : Ending.returned (.string a) = .returned (.string b) := by rw [h]
set_option maxHeartbeats 800000 in
theorem fold_any (l : List UInt8) (W : World) (hl : l.length ≤ 140737488355328) :
    Calls Try.prog 28 #[.string (str l)] W fun e w' => e = .returned (.string (str (foldS l))) ∧ Below W.heap.size W w' := by
  have HC := Lib.hid (fun W => pcut_any l W (by omega))
  obtain ⟨s, hn, hend⟩ := fold_end l
  have HEND := Lib.hid hend
  have hd := str_size (dom l)
  have HCV := Lib.hid (fun w => run_byt l w)
  have HST : Hid (∀ w B A c, Bts w B A (lowK s l.length l) → (convert 54 9 (.slice A l.length c)).run Try.prog w = .ok (.string (str (foldS l))) w) := Lib.hid fun w B A c h => by
    have := run_str Try.prog Try.underlying54 Try.underlying5 Try.underlying9 c h
    rw [lowK_length, hend] at this
    exact this
  have hst : lowK s s l = l := lowK_start s l
  have HSTART := Lib.hid hst
  have HNEXT := Lib.hid (fun k h1 h2 => lowK_next (s := s) (k := k) (l := l) h1 h2)
  have HDR : Hid (∀ n, Below W.heap.size W (W.drewN n)) := Lib.hid (fun n => ⟨rfl, rfl, rfl, Nat.le_refl _, fun _ _ => rfl⟩)
  clear hend hst
  generalize hN : l.length = N at *
  have HN := Lib.hid hN
  generalize hD : (dom l).length = d at *
  generalize str (dom l) = sd at *
  generalize str (loc l) = sl at *
  generalize str (foldS l) = sf at *
  clear hD hN
  generalize hs : str l = t at *
  clear hs
  go_enter Try.func28, Try.ntmps28
  go_wp2_with (first
    | (refine (HC.out _).mono ?_; rintro e w1 ⟨rfl, n, rfl⟩)
    | fail)
  have hb1 := HDR.out n
  clear HDR
  generalize W.drewN n = w1 at *
  obtain ⟨c, w2, hrun, hby, hb2⟩ := HCV.out w1
  have hbel := hb1.trans (hb2.mono hb1.size)
  have hgN : W.heap.size ≤ w1.heap.size := hb1.size
  clear hb1 hb2
  generalize w1.heap.size = g at *
  have HST0 : Hid (Byt w2 g (lowK s s l) ∧ Below W.heap.size W w2) := Lib.hid ⟨by rw [HSTART.out]; exact hby, hbel⟩
  clear hby hbel
  have hsN : s ≤ N := by omega
  have hdN : d ≤ N := by omega
  have hsv : (N : Int) - d = s := by omega
  have HGN := Lib.hid hgN
  clear hgN hn
  go_wp2_with fail
  rw [hrun]
  clear hrun
  go_wp2_with fail
  go_loopw [6] (fun x wr => ∃ k : Nat, s ≤ k ∧ k ≤ N ∧ x = .int .i64 k ∧ Hid (Byt wr g (lowK s k l) ∧ Below W.heap.size W wr)) (fun x _ => N - (intOf x).toNat)
  case atStart => exact ⟨s, Nat.le_refl _, hsN, rfl, HST0⟩
  case round =>
    obtain ⟨k, hk1, hk, rfl, HR⟩ := hrel
    by_cases hlt : k < N
    · obtain ⟨hby, hbel⟩ := HR.out
      have hc := hby.cell (j := k) (by rw [lowK_length, HN.out]; exact hlt)
      have hf := hby.froz (j := k) (by rw [lowK_length, HN.out]; exact hlt)
      have hgl := hby.lt
      rw [lowK_getD (by rw [HN.out]; exact hlt), if_neg (by omega)] at hc
      have HNX := HNEXT.out k hk1 hlt
      have hby2 := hby.set k (lowB (l.getD k 0))
      rw [HNX] at hby2
      have HB2 := Lib.hid (And.intro hby2 (hbel.setCell (show W.heap.size ≤ (⟨g, k, none⟩ : Addr).block from HGN.out) (.int .u8 ((lowB (l.getD k 0)).toNat : Int))))
      have HSM := Lib.hid (fun w => small_any (l.getD k 0) w)
      clear hby hbel HNX hby2 HR
      generalize l.getD k 0 = cc at *
      go_wp2_with (first
        | (refine (HSM.out _).mono ?_; rintro e w3 ⟨rfl, rfl⟩)
        | fail)
      go_roundw
      case rel => exact ⟨k + 1, by omega, by omega, by go_num, HB2⟩
      case measure => simp [intOf]; omega
    · have hkN : k = N := by omega
      obtain ⟨hby, hbel⟩ := HR.out
      have hb := hby.bts
      rw [hkN] at hb
      have hs2 := HST.out _ _ _ c hb
      have HBE := Lib.hid hbel
      clear hby hbel hb HR
      go_wp2_with fail
      go_ret
      exact ⟨rfl, HBE.out⟩
set_option maxHeartbeats 800000 in
theorem rlower_any (l : List UInt8) (W : World) (hl : l.length ≤ 140737488355328) :
    Calls Try.prog 43 #[.string (str l)] W fun e w' => e = .returned (.string (str (l.map lowB))) ∧ Below W.heap.size W w' := by
  have hend := low_all l
  have HST : Hid (∀ w B A c, Bts w B A (lowK 0 l.length l) → (convert 54 9 (.slice A l.length c)).run Try.prog w = .ok (.string (str (l.map lowB))) w) := Lib.hid fun w B A c h => by
    have := run_str Try.prog Try.underlying54 Try.underlying5 Try.underlying9 c h
    rw [lowK_length, hend] at this
    exact this
  have hst : lowK 0 0 l = l := lowK_start 0 l
  have HNEXT := Lib.hid (fun k h1 h2 => lowK_next (s := 0) (k := k) (l := l) h1 h2)
  obtain ⟨c, w2, hrun, hby, hbel⟩ := run_byt l W
  obtain ⟨g, hg⟩ : ∃ g, g = W.heap.size := ⟨_, rfl⟩
  rw [← hg] at hby hrun
  have HST0 : Hid (Byt w2 g (lowK 0 0 l) ∧ Below W.heap.size W w2) := Lib.hid ⟨by rw [hst]; exact hby, hbel⟩
  have HGN := Lib.hid hg
  clear hby hbel hst hend hg
  generalize hN : l.length = N at *
  have HN := Lib.hid hN
  clear hN
  generalize str (l.map lowB) = sf at *
  generalize hs : str l = t at *
  clear hs
  go_enter Try.func43, Try.ntmps43
  go_wp2_with fail
  clear hrun
  go_loopw [4, 5, 10] (fun _ _ x wr => ∃ k : Nat, k ≤ N ∧ x = .int .i64 k ∧ Hid (Byt wr g (lowK 0 k l) ∧ Below W.heap.size W wr)) (fun _ _ x _ => N - (intOf x).toNat)
  case atStart => exact ⟨0, Nat.zero_le _, rfl, HST0⟩
  case round =>
    obtain ⟨k, hk, rfl, HR⟩ := hrel
    by_cases hlt : k < N
    · obtain ⟨hby, hbel⟩ := HR.out
      have hlen : k < (lowK 0 k l).length := by rw [lowK_length, HN.out]; exact hlt
      have hc := hby.cell (j := k) hlen
      have hf := hby.froz (j := k) hlen
      have hgl := hby.lt
      rw [lowK_getD (by rw [HN.out]; exact hlt), if_neg (by omega)] at hc
      have hnx := HNEXT.out k (Nat.zero_le _) hlt
      have hby2 := hby.set k (lowB (l.getD k 0))
      rw [hnx] at hby2
      have hcn := (l.getD k 0).toNat_lt
      have hln := lowB_num (l.getD k 0)
      have hsame : ¬ (65 ≤ ((l.getD k 0).toNat : Int) ∧ ((l.getD k 0).toNat : Int) ≤ 90) → Byt _ g (lowK 0 (k + 1) l) := fun hn => by
        have e : lowB (l.getD k 0) = l.getD k 0 := by
          rcases lowB_cases (l.getD k 0) with ⟨h1, h2, _⟩ | ⟨_, h2⟩
          · exact absurd ⟨by omega, by omega⟩ hn
          · exact h2
        have e2 : (lowK 0 k l).set k (lowB (l.getD k 0)) = lowK 0 k l := by
          rw [e]
          apply getD_ext (by rw [List.length_set])
          intro j hj
          by_cases ejk : k = j
          · subst ejk
            rw [lowK_getD (by rw [HN.out]; exact hlt), if_neg (by omega)]
            rw [List.length_set] at hj
            simp only [List.getD, List.getElem?_set_self hj, Option.getD_some]
          · simp [List.getD, List.getElem?_set_ne ejk]
        rw [← hnx, e2]
        exact hby
      have HSAME := Lib.hid hsame
      have HBEL := Lib.hid hbel
      clear hsame hlen hnx
      by_cases c1 : (65 : Int) ≤ (l.getD k 0).toNat
      · by_cases c2 : ((l.getD k 0).toNat : Int) ≤ 90
        · rw [if_pos ⟨c1, c2⟩] at hln
          rw [hln] at hby2
          have HB2 := Lib.hid (And.intro hby2 (hbel.setCell (show W.heap.size ≤ (⟨g, k, none⟩ : Addr).block by rw [HGN.out]; exact Nat.le_refl _) (.int .u8 ((l.getD k 0).toNat + 32 : Int))))
          clear hby hbel hby2 HR hln HSAME
          generalize (l.getD k 0).toNat = cc at *
          go_wp2_with fail
          go_roundw
          case rel => exact ⟨k + 1, by omega, by go_num, HB2⟩
          case measure => simp [intOf]; omega
        · have HB2 : Hid (Byt _ g (lowK 0 (k + 1) l) ∧ Below W.heap.size W _) := Lib.hid ⟨HSAME.out (fun h => c2 h.2), HBEL.out⟩
          clear hby hbel hby2 HR hln HSAME
          generalize (l.getD k 0).toNat = cc at *
          go_wp2_with fail
          go_roundw
          case rel => exact ⟨k + 1, by omega, by go_num, HB2⟩
          case measure => simp [intOf]; omega
      · have HB2 : Hid (Byt _ g (lowK 0 (k + 1) l) ∧ Below W.heap.size W _) := Lib.hid ⟨HSAME.out (fun h => c1 h.1), HBEL.out⟩
        clear hby hbel hby2 HR hln HSAME
        generalize (l.getD k 0).toNat = cc at *
        go_wp2_with fail
        go_roundw
        case rel => exact ⟨k + 1, by omega, by go_num, HB2⟩
        case measure => simp [intOf]; omega
    · have hkN : k = N := by omega
      obtain ⟨hby, hbel⟩ := HR.out
      have hb := hby.bts
      rw [hkN] at hb
      have hs2 := HST.out _ _ _ c hb
      have HBE := Lib.hid hbel
      clear hby hbel hb HR
      go_wp2_with fail
      go_ret
      exact ⟨rfl, HBE.out⟩
theorem rfold_any (l : List UInt8) (W : World) (hl : l.length ≤ 140737488355328) :
    Calls Try.prog 30 #[.string (str l)] W fun e w' => e = .returned (.string (str (foldS l))) ∧ Below W.heap.size W w' := by
  have HI := Lib.hid (rlast_any l W (by omega))
  have hsz := str_size l
  rcases last_cases l with ⟨hn, h⟩ | ⟨a, b, hab, hn, h⟩
  · rw [h] at HI
    rw [foldS_no hn]
    clear hn h
    generalize str l = s at *
    go_enter Try.func30, Try.ntmps30
    go_wp2_with (first
      | (refine HI.out.mono ?_; rintro e w' ⟨rfl, rfl⟩)
      | fail)
    go_ret
    exact ⟨rfl, Below.refl _ _⟩
  · have h1 : ¬ lastI l < 0 := by rw [h]; omega
    rw [h] at HI
    have hlen : l.length = a.length + b.length + 1 := by rw [hab]; simp; omega
    have hfo := foldS_at (a := a) hn
    rw [← hab] at hfo
    have E1 : Hid ((str l).extract 0 (a.length + 1) = str (a ++ [64])) := Lib.hid (by
      rw [str_extract, List.drop_zero, Nat.sub_zero, hab, show a ++ 64 :: b = (a ++ [64]) ++ b by simp, show a.length + 1 = (a ++ [64]).length by simp, List.take_left])
    have E2 : (str l).extract (a.length + 1) l.length = str b := by
      rw [str_extract, List.take_of_length_le (by rw [List.length_drop]; omega), hab, show a ++ 64 :: b = (a ++ [64]) ++ b by simp, show a.length + 1 = (a ++ [64]).length by simp, List.drop_left]
    have HL := Lib.hid (fun W => rlower_any b W (by omega))
    rw [← E2] at HL
    have E3 : Hid (str (a ++ [64]) ++ str (b.map lowB) = str (foldS l)) := Lib.hid (by rw [str_append, hfo]; simp)
    have hlen2 : a.length + 1 ≤ l.length := by omega
    have hsb : (str (b.map lowB)).size ≤ l.length := by rw [str_size, List.length_map]; omega
    clear hn h h1 hab hlen hfo E2
    generalize hal : a.length = k at *
    clear hal
    have ek : IntKind.i64.wrap ((k : Int) + 1) = k + 1 := IntWalk.i64_in _ (by omega)
    generalize str (b.map lowB) = sb at *
    generalize str (foldS l) = sf at *
    generalize str (a ++ [64]) = sa at *
    generalize str l = s at *
    go_enter Try.func30, Try.ntmps30
    go_wp2_with (first
      | (refine HI.out.mono ?_; rintro e w' ⟨rfl, rfl⟩)
      | fail)
    have h0 : Below W.heap.size W W.drew := (Below.refl _ _).drew
    refine wp_region_held_drew (S := (fun X => Below W.heap.size W X)) (by kernel_rfl) (h0) (fun hHeld => ?_)
    refine wpAnyH_take (i := 0) (v := .string s) rfl (by kernel_rfl) (by kernel_rfl) (by kernel_rfl) (fun _ _ _ h => h) (Or.inl ⟨by rfl, fun w hS => by first | (go_simp; done) | (go_simp; with_reducible rfl)⟩) hHeld ?_
    try simp only [Act.put, List.getElem_toArray, List.getElem_cons_zero, List.setIfInBounds_toArray, List.set_cons_zero, List.set_cons_succ]
    refine wpAnyH_take (i := 1) (v := .int .i64 k) rfl (by kernel_rfl) (by kernel_rfl) (by kernel_rfl) (fun _ _ _ h => h) (Or.inl ⟨by rfl, fun w hS => by first | (go_simp; done) | (go_simp; with_reducible rfl)⟩) hHeld ?_
    try simp only [Act.put, List.getElem_toArray, List.getElem_cons_zero, List.getElem_cons_succ, List.setIfInBounds_toArray, List.set_cons_zero, List.set_cons_succ]
    refine wpAnyH_take (i := 2) (v := .int .i64 (k + 1)) rfl (by kernel_rfl) (by kernel_rfl) (by kernel_rfl) (fun _ _ _ h => h) (Or.inl ⟨by rfl, fun w hS => by first | (go_simp; done) | (go_simp; with_reducible rfl)⟩) hHeld ?_
    try simp only [Act.put, List.getElem_toArray, List.getElem_cons_zero, List.getElem_cons_succ, List.setIfInBounds_toArray, List.set_cons_zero, List.set_cons_succ]
    refine wpAnyH_take (i := 3) (v := .string (s.extract 0 (k + 1))) rfl (by kernel_rfl) (by kernel_rfl) (by kernel_rfl) (fun _ _ _ h => h) (Or.inl ⟨by rfl, fun w hS => by first | (go_simp; done) | (go_simp; intro hx; exfalso; have := hx (by omega); omega) | (go_simp; intro hx; exfalso; omega)⟩) hHeld ?_
    try simp only [Act.put, List.getElem_toArray, List.getElem_cons_zero, List.getElem_cons_succ, List.setIfInBounds_toArray, List.set_cons_zero, List.set_cons_succ]
    refine wpAnyH_take (i := 4) (v := .string s) rfl (by kernel_rfl) (by kernel_rfl) (by kernel_rfl) (fun _ _ _ h => h) (Or.inl ⟨by rfl, fun w hS => by first | (go_simp; done) | (go_simp; with_reducible rfl)⟩) hHeld ?_
    try simp only [Act.put, List.getElem_toArray, List.getElem_cons_zero, List.getElem_cons_succ, List.setIfInBounds_toArray, List.set_cons_zero, List.set_cons_succ]
    refine wpAnyH_take (i := 5) (v := .int .i64 k) rfl (by kernel_rfl) (by kernel_rfl) (by kernel_rfl) (fun _ _ _ h => h) (Or.inl ⟨by rfl, fun w hS => by first | (go_simp; done) | (go_simp; with_reducible rfl)⟩) hHeld ?_
    try simp only [Act.put, List.getElem_toArray, List.getElem_cons_zero, List.getElem_cons_succ, List.setIfInBounds_toArray, List.set_cons_zero, List.set_cons_succ]
    refine wpAnyH_take (i := 6) (v := .int .i64 (k + 1)) rfl (by kernel_rfl) (by kernel_rfl) (by kernel_rfl) (fun _ _ _ h => h) (Or.inl ⟨by rfl, fun w hS => by first | (go_simp; done) | (go_simp; with_reducible rfl)⟩) hHeld ?_
    try simp only [Act.put, List.getElem_toArray, List.getElem_cons_zero, List.getElem_cons_succ, List.setIfInBounds_toArray, List.set_cons_zero, List.set_cons_succ]
    refine wpAnyH_take (i := 7) (v := .string (s.extract (k + 1) l.length)) rfl (by kernel_rfl) (by kernel_rfl) (by kernel_rfl) (fun _ _ _ h => h) (Or.inl ⟨by rfl, fun w hS => by first | (go_simp; done) | (go_simp; intro hx; exfalso; have := hx (by omega); omega) | (go_simp; intro hx; exfalso; omega)⟩) hHeld ?_
    try simp only [Act.put, List.getElem_toArray, List.getElem_cons_zero, List.getElem_cons_succ, List.setIfInBounds_toArray, List.set_cons_zero, List.set_cons_succ]
    refine wpAnyH_ready (rs := [8]) (by kernel_rfl) (by simp) ?_
    refine AllReadyH.cons rfl (fun K hK => ?_) AllReadyH.nil
    go_simp
    go_wp2_with (go_at_call 43; refine (HL.out _).mono ?_; rintro e w2 ⟨rfl, hb2⟩; have k2 := h0.trans (hb2.mono h0.size))
    refine hK.out _ _ ?_ (fun hHeld => ?_)
    · exact k2
    clear hK K
    try simp only [Act.put, List.getElem_toArray, List.getElem_cons_zero, List.getElem_cons_succ, List.setIfInBounds_toArray, List.set_cons_zero, List.set_cons_succ]
    refine wpAnyH_take (i := 9) (v := .string (s.extract 0 (k + 1) ++ sb)) rfl (by kernel_rfl) (by kernel_rfl) (by kernel_rfl) (fun _ _ _ h => h) (Or.inl ⟨by rfl, fun w hS => by first | (go_simp; done) | (go_simp; omega)⟩) hHeld ?_
    try simp only [Act.put, List.getElem_toArray, List.getElem_cons_zero, List.getElem_cons_succ, List.setIfInBounds_toArray, List.set_cons_zero, List.set_cons_succ]
    refine wpAnyH_take (i := 10) (v := .string (s.extract 0 (k + 1) ++ sb)) rfl (by kernel_rfl) (by kernel_rfl) (by kernel_rfl) (fun _ _ _ h => h) (Or.inl ⟨by rfl, fun w hS => by first | (go_simp; done) | (go_simp; with_reducible rfl)⟩) hHeld ?_
    try simp only [Act.put, List.getElem_toArray, List.getElem_cons_zero, List.getElem_cons_succ, List.setIfInBounds_toArray, List.set_cons_zero, List.set_cons_succ]
    refine wpAnyH_done (by kernel_rfl) ?_ _
    go_wp2_with fail
    go_ret
    exact ⟨ret_str (by rw [E1.out, E3.out]), k2⟩
theorem mail1 : mailS [97, 46, 46, 98, 64, 120] = false := by decide
theorem mail2 : mailS [97, 64, 120] = true := by decide
theorem parse1 : parseS [60, 97, 46, 98, 64, 120, 46, 111, 114, 103, 62, 32, 83, 73, 90, 69, 61, 53] = ([97, 46, 98, 64, 120, 46, 111, 114, 103], [32, 83, 73, 90, 69, 61, 53], true) := by decide
end Pa
end Go.Proofs.Ytamjellnmlgbeaa
