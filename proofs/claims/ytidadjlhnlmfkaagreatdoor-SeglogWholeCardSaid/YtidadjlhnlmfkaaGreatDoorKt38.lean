/- SlWholeA SlWhole. Conditions: as stated at each. -/
import Derived.Test.YtidadjlhnlmfkaaGreatDoorKt35
import Derived.Test.YtidadjlhnlmfkaaGreatDoorKt37
import Derived.Test.YtidadjlhnlmfkaaGreatDoorKt32
import Derived.Test.YtidadjlhnlmfkaaGreatDoorKt06
/- The states of the law SeglogWhole: Append, Sync, Arm, Rewrite, Start, Open. Conditions: as stated at each. -/
namespace Go.Proofs.YtidadjlhnlmfkaaGreatDoor
open Go.RowKit Go.Shelf Go Go.Maps
/-- one file, of those records. -/
def OneF (F : Files) (s : List (List UInt8)) (z : Nat) : Prop := F (fileN ⟨#[120]⟩ 1) = some (wr s, z) ∧ ∀ t, t ≠ fileN ⟨#[120]⟩ 1 → F t = none
/-- the file and its spare. -/
def TwoF (F : Files) (s : List (List UInt8)) (z : Nat) (sb : List UInt8) (zs : Nat) : Prop := F (fileN ⟨#[120]⟩ 1) = some (wr s, z) ∧ F (spN ⟨#[120]⟩) = some (sb, zs) ∧ ∀ t, t ≠ fileN ⟨#[120]⟩ 1 → t ≠ spN ⟨#[120]⟩ → F t = none
def BaseD (W : World) (N : Nat) (Ft : Nat → Prop) (X : World) : Prop := Low X Ft ∧ (∀ i, Ft i → W.heap.size ≤ i) ∧ Below W.heap.size W X ∧ N ≤ X.heap.size
theorem BaseD.next {W X Y : World} {N L G : Nat} {Ft : Nat → Prop} (h : BaseD W N Ft X) (hL : W.heap.size ≤ L) (hG : W.heap.size ≤ G) (hT : Tn (OwnL Ft L G) X Y) : BaseD W N (NewFt Ft X Y) Y := by
  obtain ⟨h1, h2, h3, h4⟩ := h
  have hz := hT.size
  exact ⟨h1.new hz, fun i hi => hi.elim (h2 i) (fun e => by have := h3.size; omega), rest_below h2 h3 hL hG hT, by omega⟩
theorem BaseD.below {W X Y : World} {N : Nat} {Ft : Nat → Prop} (h : BaseD W N Ft X) (hb : Below X.heap.size X Y) : BaseD W N Ft Y := by
  obtain ⟨h1, h2, h3, h4⟩ := h
  have hz := hb.size
  exact ⟨h1.up hz, h2, h3.trans (hb.mono h3.size), by omega⟩
def KW (W : World) (N Dk L G : Nat) (al : List (List UInt8)) (k : Nat) (X : World) : Prop :=
  ∃ F Ft, LogS X N Ft Dk (2 + 5 * k) F 1048576 (took (al.take k) : Nat) 0 false L G ⟨#[120]⟩ 524288 (gS [al.take k]) false ∧ OneF F (al.take k) 0 ∧ BaseD W N Ft X ∧ W.heap.size ≤ L ∧ W.heap.size ≤ G
theorem OneF.set {F : Files} {s : List (List UInt8)} {z : Nat} (h : OneF F s z) {t : List (List UInt8)} {bs : List UInt8} {y : Nat} (hb : bs = wr t) : OneF (F.upd (fileN ⟨#[120]⟩ 1) (some (bs, y))) t y := by
  refine ⟨by unfold Files.upd; rw [if_pos rfl, hb], fun u hu => ?_⟩
  unfold Files.upd
  rw [if_neg hu]
  exact h.2 u hu
set_option maxHeartbeats 1600000 in
theorem kw_next {W : World} {N Dk L G : Nat} {al : List (List UInt8)} {k : Nat} {X : World} (h : KW W N Dk L G al k X) (hf : fewB al = true) (hk : k < al.length) (A : Option Addr) (cp : Nat) (hA : Bts X X.heap.size A (al.getD k [])) (hcp : (al.getD k []).length ≤ cp) (hcm : cp ≤ maxLen) :
    Calls Tryz.prog 10 #[.pointer (some ⟨L, 0, none⟩), .slice A (al.getD k []).length cp] X fun e w' => (∃ v, e = .returned v) ∧ KW W N Dk L G al (k + 1) w' := by
  obtain ⟨F, Ft, hL, hF, hb, hL9, hG9⟩ := h
  obtain ⟨f1, f2⟩ := few_len hf
  have f3 := few_took hf
  have hmem : al.getD k [] ∈ al := by rw [List.getD, List.getElem?_eq_getElem hk]; exact List.getElem_mem hk
  have hr := f2 _ hmem
  have htk := took_take al k
  have hnx := take_flat hk
  have hrl := rec1_length (al.getD k [])
  have hsl := took_len (al.take k)
  have hwl : (wr (al.take k)).length = took (al.take k) := wr_length _
  refine (append_L X N Ft Dk (2 + 5 * k) F 1048576 _ 0 L G ⟨#[120]⟩ 524288 [] (al.take k).length (took (al.take k)) (wr (al.take k)) 0 A cp (al.getD k []) hL hb.1 (by simp) nmOk_x hF.1 (by omega) (by unfold maxLen; omega) (by omega) (by omega) (by omega) (by omega) (by omega) (by omega) hb.2.2.2 hA hcp hcm (by omega) (by omega) ⟨by omega, fun h => by omega⟩).mono ?_
  rintro e w' ⟨kt, Fl, lft, gt, ct, zt, bst, sft, hR, rfl, hp⟩
  refine ⟨⟨_, rfl⟩, ?_⟩
  rcases hR with ⟨_, rfl, rfl, rfl, rfl, rfl, rfl, rfl, rfl⟩ | ⟨hz', _⟩
  · have hp := hp.k (k2 := 2 + 5 * (k + 1)) (by omega)
    have e1 : (al.take (k + 1)).length = (al.take k).length + 1 := by rw [hnx]; simp
    have e2 : took (al.take (k + 1)) = took (al.take k) + (rec1 (al.getD k [])).length := by rw [hnx, took_append, rec1_length]; simp [took]
    have hF2 : OneF (Fl.upd (fileN ⟨#[120]⟩ 1) (some (wr (al.take k) ++ rec1 (al.getD k []), 0))) (al.take (k + 1)) 0 := hF.set (by rw [hnx, wr_append, wr_one])
    refine ⟨_, _, ?_, hF2, hb.next hL9 hG9 hp.2, hL9, hG9⟩
    rw [e2, Int.natCast_add]
    show LogS _ _ _ _ _ _ _ _ _ _ _ _ _ _ [((al.take (k + 1)).length, took (al.take (k + 1)))] _
    rw [e1, e2]
    exact hp.1
  · omega
theorem KW.below {W X Y : World} {N Dk L G : Nat} {al : List (List UInt8)} {k : Nat} (h : KW W N Dk L G al k X) (hb : Below X.heap.size X Y) : KW W N Dk L G al k Y := by
  obtain ⟨F, Ft, h1, h2, h3, h4, h5⟩ := h
  exact ⟨F, Ft, h1.below hb, h2, h3.below hb, h4, h5⟩
/-- all of a is safe. -/
def KX (W : World) (N Dk L G : Nat) (al : List (List UInt8)) (lf : Int) (X : World) : Prop :=
  ∃ F Ft, LogS X N Ft Dk 200 F 1048576 (took al : Nat) lf false L G ⟨#[120]⟩ 524288 (gS [al]) false ∧ OneF F al (wr al).length ∧ BaseD W N Ft X ∧ W.heap.size ≤ L ∧ W.heap.size ≤ G
theorem sync_W {W : World} {N Dk L G : Nat} {al : List (List UInt8)} {X : World} (h : KW W N Dk L G al al.length X) (hf : fewB al = true) :
    Calls Tryz.prog 11 #[.pointer (some ⟨L, 0, none⟩)] X fun e w' => e = .returned (.int .i64 0) ∧ KX W N Dk L G al 0 w' := by
  obtain ⟨F, Ft, hL, hF, hb, hL9, hG9⟩ := h
  rw [List.take_length] at hL hF
  have f3 := few_took hf
  have f1 := (few_len hf).1
  have hwl : (wr al).length = took al := wr_length _
  refine (sync_L X N Ft Dk _ F 1048576 _ 0 L G ⟨#[120]⟩ 524288 (gS [al]) (wr al) _ hL hb.1 (by simp [gS]) nmOk_x hF.1 (by omega) (by unfold maxLen; omega) (by omega) (by omega) (by omega) (by omega)).mono ?_
  rintro e w' ⟨rfl, hp⟩
  have hp := hp.k (k2 := 200) (by omega)
  exact ⟨rfl, _, _, hp.1, hF.set rfl, hb.next hL9 hG9 hp.2, hL9, hG9⟩
theorem arm_W {W : World} {N Dk L G : Nat} {al : List (List UInt8)} {X : World} (n : Int) (h : KX W N Dk L G al 0 X) :
    Calls Tryz.prog 12 #[.pointer (some ⟨Dk, 0, none⟩), .int .i64 n] X fun e w' => e = .returned (.tuple #[]) ∧ KX W N Dk L G al n w' := by
  obtain ⟨F, Ft, hL, hF, hb, hL9, hG9⟩ := h
  refine (arm_S X N Ft Dk _ F _ _ 0 n false hL.1).mono ?_
  rintro e w' ⟨rfl, hD, hT⟩
  have hz := hT.size
  exact ⟨rfl, F, Ft, ⟨hD, (hT.block L hL.ltL hL.2.2.2.1).trans hL.2.1, hL.2.2.1.same (hT.block G hL.ltG hL.2.2.2.2), hL.2.2.2.1, hL.2.2.2.2⟩, hF, ⟨hb.1.up hz, hb.2.1, rest_below hb.2.1 hb.2.2.1 hL9 hG9 (OwnL.of hT), Nat.le_trans hb.2.2.2 hz⟩, hL9, hG9⟩
/-- behind Rewrite, alive: the new records. -/
def KRa (W : World) (N Dk : Nat) (s : List (List UInt8)) (X : World) : Prop :=
  ∃ F Ft x lf k, DiskS X N Ft Dk k F 1048576 x lf false ∧ k ≤ 300 ∧ OneF F s (wr s).length ∧ 0 ≤ x ∧ x ≤ 30000 ∧ BaseD W N Ft X
/-- behind Rewrite, dead: the old records, and maybe the spare. -/
def KRd (W : World) (N Dk : Nat) (s : List (List UInt8)) (X : World) : Prop :=
  ∃ F Ft x k, DiskS X N Ft Dk k F 1048576 x 1 true ∧ k ≤ 300 ∧ x ≤ 30000 ∧ BaseD W N Ft X ∧ ((OneF F s (wr s).length ∧ x = (took s : Nat)) ∨ ∃ sb zs, TwoF F s (wr s).length sb zs ∧ zs ≤ sb.length ∧ x = (took s : Nat) + sb.length)
theorem OneF.len {F : Files} {s : List (List UInt8)} {z : Nat} (h : OneF F s z) : lenOf F (fileN ⟨#[120]⟩ 1) = took s := by
  unfold lenOf
  rw [h.1]
  exact wr_length s
theorem rewr_W {W : World} {N Dk L G : Nat} {al bl : List (List UInt8)} {n : Int} {X : World} (h : KX W N Dk L G al n X) (hfa : fewB al = true) (hfb : fewB bl = true) (hn : n ≤ 9223372036854775807) (A : Option Addr) (cp : Nat) (hR : Rws X X.heap.size A bl) :
    Calls Tryz.prog 17 #[.pointer (some ⟨L, 0, none⟩), .int .i64 1, .slice A bl.length cp] X fun e w' => (e = .returned (.int .i64 0) ∧ KRa W N Dk bl w') ∨ (e = .returned (.int .i64 10) ∧ KRd W N Dk al w') := by
  obtain ⟨F, Ft, hL, hF, hb, hL9, hG9⟩ := h
  have f3 := few_took hfa
  have f4 := few_took hfb
  obtain ⟨f1, f2⟩ := few_len hfb
  have hlen := hF.len
  have hwl : (wr bl).length = took bl := wr_length _
  have hsp : F (fileN ⟨#[120]⟩ 1 ++ ⟨#[46, 110, 101, 119]⟩) = none := hF.2 _ (spN_ne ⟨#[120]⟩ 1)
  have hrw := rewr_any X N Ft Dk 200 F 1048576 _ n L G ⟨#[120]⟩ 524288 (gS [al]) 0 al.length (took al) A cp bl hL hb.1 (by simp [gS]) nmOk_x rfl (by show lenOf F (fileN ⟨#[120]⟩ 1) ≤ _; omega) hsp (by unfold maxLen; omega) (by omega) (by omega) (by omega) hn hb.2.2.2 hR (by omega) (fun r hr => by have := f2 r hr; omega)
  rw [show (((0 : Nat) : Int) + 1) = 1 from rfl] at hrw
  refine hrw.mono ?_
  rintro e w' (⟨rfl, hq⟩ | ⟨rfl, F', x', hcut, hq⟩)
  · left
    refine ⟨rfl, _, _, _, _, _, hq.1.1, by omega, ⟨RewF.same, fun t ht => ?_⟩, ?_, ?_, hb.next hL9 hG9 hq.2⟩
    · rw [RewF.other hsp ht]
      exact hF.2 t ht
    · show 0 ≤ ((took al : Nat) : Int) + (wr bl).length - lenOf F (fileN ⟨#[120]⟩ 1)
      omega
    · show ((took al : Nat) : Int) + (wr bl).length - lenOf F (fileN ⟨#[120]⟩ 1) ≤ 30000
      omega
  · right
    have hfl : fileN ⟨#[120]⟩ 1 ≠ spN ⟨#[120]⟩ := fun e => spN_ne ⟨#[120]⟩ 1 e.symm
    rcases hcut with ⟨rfl, rfl⟩ | ⟨b, z, hbb, hz, c1, c2, rfl⟩
    · exact ⟨rfl, _, _, _, _, hq.1.1, by omega, by omega, hb.next hL9 hG9 hq.2, .inl ⟨hF, rfl⟩⟩
    · have hbl : b.length ≤ took bl := by
        rcases hbb with rfl | rfl
        · simp
        · omega
      refine ⟨rfl, _, _, _, _, hq.1.1, by omega, by omega, hb.next hL9 hG9 hq.2, .inr ⟨b, z, ⟨?_, c1, fun t ht ht2 => ?_⟩, hz, rfl⟩⟩
      · rw [c2 _ hfl]
        exact hF.1
      · rw [c2 t ht2]
        exact hF.2 t ht
/-- behind the start: those records, and maybe the spare. -/
def KT (W : World) (N Dk : Nat) (s : List (List UInt8)) (X : World) : Prop :=
  ∃ F Ft x lf k, DiskS X N Ft Dk k F 1048576 x lf false ∧ k ≤ 1000 ∧ 0 ≤ x ∧ x ≤ 30000 ∧ BaseD W N Ft X ∧ ((∃ z, OneF F s z) ∨ (lf = 0 ∧ ∃ sb zs z, TwoF F s z sb zs ∧ (sb.length : Int) ≤ x))
theorem names_one {F : Files} {ns : List ByteArray} {s : List (List UInt8)} {z : Nat} (h : NamesOf F ns) (hF : OneF F s z) : ns = [fileN ⟨#[120]⟩ 1] := by
  have := names_are (nm := ⟨#[120]⟩) (m := 1) h (fun t => ?_) (by omega)
  · exact this
  · constructor
    · intro ht
      by_cases e : t = fileN ⟨#[120]⟩ 1
      · exact ⟨1, by omega, by omega, e⟩
      · exact absurd (hF.2 t e) ht
    · rintro ⟨j, h1, h2, rfl⟩
      have : j = 1 := by omega
      subst this
      rw [hF.1]
      simp
theorem TwoF.iff {F : Files} {s : List (List UInt8)} {z zs : Nat} {sb : List UInt8} (hF : TwoF F s z sb zs) (t : ByteArray) : F t ≠ none ↔ t = fileN ⟨#[120]⟩ 1 ∨ t = spN ⟨#[120]⟩ := by
  constructor
  · intro ht
    by_cases e : t = fileN ⟨#[120]⟩ 1
    · exact .inl e
    · by_cases e2 : t = spN ⟨#[120]⟩
      · exact .inr e2
      · exact absurd (hF.2.2 t e e2) ht
  · rintro (rfl | rfl)
    · rw [hF.1]; simp
    · rw [hF.2.1]; simp
theorem TwoF.names {F : Files} {s : List (List UInt8)} {z zs : Nat} {sb : List UInt8} (hF : TwoF F s z sb zs) : NamesOf F [fileN ⟨#[120]⟩ 1, spN ⟨#[120]⟩] := by
  refine ⟨?_, fun t => by rw [hF.iff t]; simp, ?_, fun t ht => ?_⟩
  · simp only [List.nodup_cons, List.mem_singleton, List.not_mem_nil, not_false_eq_true, List.nodup_nil, and_true]
    exact fun e => spN_ne ⟨#[120]⟩ 1 e.symm
  · refine List.Pairwise.cons (fun b hb => ?_) (List.pairwise_singleton _ _)
    rw [List.mem_singleton.1 hb, spN_data]
    exact List.IsPrefix.le ⟨_, rfl⟩
  · have h1 := fileN_size ⟨#[120]⟩ 1
    have h2 := spN_size ⟨#[120]⟩
    have h3 : (⟨#[120]⟩ : ByteArray).size = 1 := rfl
    unfold maxLen
    simp only [List.mem_cons, List.not_mem_nil, or_false] at ht
    rcases ht with rfl | rfl <;> omega
theorem TwoF.sum {F : Files} {s : List (List UInt8)} {z zs : Nat} {sb : List UInt8} (hF : TwoF F s z sb zs) : sumOf F [fileN ⟨#[120]⟩ 1, spN ⟨#[120]⟩] = took s + sb.length := by
  have h1 : lenOf F (fileN ⟨#[120]⟩ 1) = took s := by unfold lenOf; rw [hF.1]; exact wr_length s
  have h2 : lenOf F (spN ⟨#[120]⟩) = sb.length := by unfold lenOf; rw [hF.2.1]; rfl
  unfold sumOf
  simp [h1, h2]
theorem start_Wa {W : World} {N Dk : Nat} {s : List (List UInt8)} {X : World} (h : KRa W N Dk s X) (A : Option Addr) (n c : Nat) :
    Calls Tryz.prog 13 #[.pointer (some ⟨Dk, 0, none⟩), .slice A n c] X fun e w' => e = .returned (.tuple #[]) ∧ KT W N Dk s w' := by
  obtain ⟨F, Ft, x, lf, k, hD, hk, hF, hx, hx2, hb⟩ := h
  refine (start_up X N Ft Dk _ F _ _ lf A n c hD).mono ?_
  rintro e w' ⟨rfl, hD, hbw⟩
  exact ⟨rfl, F, Ft, x, lf, k, hD, by omega, hx, hx2, hb.below hbw, .inl ⟨_, hF⟩⟩
theorem start_Wd {W : World} {N Dk : Nat} {s : List (List UInt8)} {X : World} (h : KRd W N Dk s X) (A : Option Addr) (c : Nat) (ks : List Int) (hc : ks.length ≤ c) (hK : ∀ (j : Nat) u, ks[j]? = some u → ∃ ad, A = some ad ∧ ad.block < W.heap.size ∧ W.cell? (ad.add j) = some (.int .i64 u)) :
    Calls Tryz.prog 13 #[.pointer (some ⟨Dk, 0, none⟩), .slice A ks.length c] X fun e w' => e = .returned (.tuple #[]) ∧ KT W N Dk s w' := by
  obtain ⟨F, Ft, x, k, hD, hk, hx2, hb, hF⟩ := h
  have hints : IntsQ X Ft A ks := fun j u hj => by
    obtain ⟨ad, e, g1, g2⟩ := hK j u hj
    refine ⟨ad, e, Nat.lt_of_lt_of_le g1 hb.2.2.1.size, fun hi => by have := hb.2.1 _ hi; omega, ?_⟩
    have e2 : (ad.add j).block = ad.block := by unfold Addr.add; split <;> rfl
    exact (hb.2.2.1.cell (p := ad.add j) (by rw [e2]; exact g1)).trans g2
  have hu : ∀ ns, NamesOf F ns → x = sumOf F ns := fun ns hns => by
    rcases hF with ⟨hF, rfl⟩ | ⟨sb, zs, hF, _, rfl⟩
    · rw [names_one hns hF]
      unfold sumOf
      simp [hF.len]
    · rw [names_sp hns hF.iff, hF.sum]
      simp
  refine (start_S X N Ft Dk _ F _ _ 1 A c ks hD (by omega) hu (by omega) hb.2.2.2 hc hints).mono ?_
  rintro e w' ⟨rfl, F', k', x', hD', hT, hst, hu', hx0, hx1, hk'⟩
  have hz := hT.size
  have hb' : BaseD W N (NewFt Ft X w') w' := ⟨hb.1.new hz, fun i hi => hi.elim (hb.2.1 i) (fun e => by have := hb.2.2.1.size; omega), hb.2.2.1.trans (hT.below hb.2.2.1.size (fun i _ e => by have := hb.2.1 i e; omega)), Nat.le_trans hb.2.2.2 hz⟩
  have get : ∀ t bs z, F t = some (bs, z) → ∃ n, z ≤ n ∧ n ≤ bs.length ∧ F' t = some (bs.take n, n) := fun t bs z ht => by
    rcases hst t with ⟨h1, _⟩ | ⟨bs', z', n, h1, h2, h3, h4⟩
    · rw [ht] at h1; cases h1
    · rw [ht] at h1
      injection h1 with h1
      injection h1 with e1 e2
      subst e1
      subst e2
      exact ⟨n, h2, h3, h4⟩
  have non : ∀ t, F t = none → F' t = none := fun t ht => by
    rcases hst t with ⟨_, h2⟩ | ⟨_, _, _, h1, _⟩
    · exact h2
    · rw [ht] at h1; cases h1
  refine ⟨rfl, F', _, x', 0, k', hD', by omega, hx0, by omega, hb', ?_⟩
  rcases hF with ⟨hF, rfl⟩ | ⟨sb, zs, hF, hzs, rfl⟩
  · obtain ⟨n, n1, n2, n3⟩ := get _ _ _ hF.1
    refine .inl ⟨n, ?_, fun t ht => non t (hF.2 t ht)⟩
    rw [n3, List.take_of_length_le n1]
  · obtain ⟨n, n1, n2, n3⟩ := get _ _ _ hF.1
    obtain ⟨q, q1, q2, q3⟩ := get _ _ _ hF.2.1
    have hF' : TwoF F' s n (sb.take q) q := ⟨by rw [n3, List.take_of_length_le n1], q3, fun t ht ht2 => non t (hF.2.2 t ht ht2)⟩
    refine .inr ⟨rfl, sb.take q, q, n, hF', ?_⟩
    have := hu' _ hF'.names
    rw [hF'.sum] at this
    omega
/-- behind Open: the log has one segment, with those records. -/
def KV (W : World) (N Dk L G : Nat) (s : List (List UInt8)) (X : World) : Prop :=
  ∃ F Ft x lf k, LogS X N Ft Dk k F 1048576 x lf false L G ⟨#[120]⟩ 524288 (gS [s]) false ∧ (∃ z, F (fileN ⟨#[120]⟩ 1) = some (wr s, z)) ∧ Below W.heap.size W X ∧ N ≤ X.heap.size
theorem open_W {W : World} {N Dk : Nat} {s : List (List UInt8)} {X : World} (h : KT W N Dk s X) (hf : fewB s = true) (hE : EG W) :
    Calls Tryz.prog 9 #[.pointer (some ⟨Dk, 0, none⟩), .string ⟨#[120]⟩, .int .i64 524288] X fun e w' => ∃ L G, e = .returned (.tuple #[.pointer (some ⟨L, 0, none⟩), .int .i64 0]) ∧ KV W N Dk L G s w' := by
  obtain ⟨F, Ft, x, lf, k, hD, hk, hx0, hx1, hb, hF⟩ := h
  have f3 := few_took hf
  obtain ⟨f1, f2⟩ := few_len hf
  have hr : recs (wr s) = s := recs_wr0 s (fun r hr => by have := f2 r hr; omega)
  have hwl : (wr s).length = took s := wr_length s
  have hl1 : ([wr s] : List (List UInt8)).length = 1 := rfl
  have hlast : lastB [wr s] ([wr s] : List (List UInt8)).length = wr s := rfl
  have hdat : datB (wr s) = wr s := by
    unfold datB
    rw [hr]
    exact List.take_of_length_le (by omega)
  have hg : gOf [wr s] = gS [s] := by
    unfold gOf gS
    simp [hr]
  have hone : ∀ z, F (fileN ⟨#[120]⟩ 1) = some (wr s, z) → ∀ (j : Nat) b, [wr s][j]? = some b → (∃ z, F (fileN ⟨#[120]⟩ (j + 1)) = some (b, z)) ∧ b.length ≤ 1000000 ∧ took (recs b) ≤ b.length ∧ (j + 1 < [wr s].length → b.length = took (recs b)) := fun z hz j b hj => by
    have hjl := (List.getElem?_eq_some_iff.1 hj).1
    simp at hjl
    subst hjl
    obtain rfl : b = wr s := by simpa using hj.symm
    rw [hr]
    exact ⟨⟨z, hz⟩, by omega, by omega, fun h => by simp at h⟩
  have hbw : ∀ w', Tn Ft X w' → Below W.heap.size W w' ∧ N ≤ w'.heap.size := fun w' hT => ⟨hb.2.2.1.trans (hT.below hb.2.2.1.size (fun i _ e => by have := hb.2.1 i e; omega)), by have := hT.size; have := hb.2.2.2; omega⟩
  rcases hF with ⟨z, hF⟩ | ⟨rfl, sb, zs, z, hF, hsb⟩
  · refine (open_S X N Ft Dk k F 1048576 x lf ⟨#[120]⟩ 524288 [wr s] hD hb.1 hb.2.2.2 (fun t => ?_) (hone z hF.1) (by simp) (by simp) nmOk_x (by omega) (by omega) hx0 (by omega) (by omega) (.inr (by rw [hlast, hr, hwl]))).mono ?_
    · constructor
      · intro ht
        by_cases e : t = fileN ⟨#[120]⟩ 1
        · exact ⟨1, by omega, by simp, e⟩
        · exact absurd (hF.2 t e) ht
      · rintro ⟨j, h1, h2, rfl⟩
        have : j = 1 := by simp at h2; omega
        subst this
        rw [hF.1]
        simp
    · rintro e w' ⟨L, G, Ft', F', ⟨_, z', c2⟩, rfl, hL, _, _, _, _, hT⟩
      rw [hlast, hdat] at c2
      rw [hg] at hL
      exact ⟨L, G, rfl, F', Ft', _, lf, _, hL, ⟨z', c2⟩, hbw w' hT⟩
  · have hgE : ¬ Ft 0 := fun e => by have := hb.2.1 0 e; have := hE.lt; omega
    refine (open_P X N Ft Dk k F 1048576 x 0 ⟨#[120]⟩ 524288 [wr s] sb zs hD hb.1 (hE.below hb.2.2.1) hgE hF.iff (hone z hF.1) rfl nmOk_x (by omega) (by omega) (by omega) (by omega) (by rw [hlast, hr, hwl]) hF.2.1 hsb).mono ?_
    rintro e w' ⟨L, G, Ft', rfl, hL, _, _, _, _, hT⟩
    rw [hg] at hL
    refine ⟨L, G, rfl, _, Ft', _, 0, _, hL, ⟨z, ?_⟩, hbw w' hT⟩
    unfold Files.upd
    rw [if_neg (fun e => spN_ne ⟨#[120]⟩ 1 e.symm)]
    exact hF.1
end Go.Proofs.YtidadjlhnlmfkaaGreatDoor
/- The walk of SeglogWhole. Conditions: strconv.ErrSyntax holds an error; the input is read. -/
namespace Go.Proofs.YtidadjlhnlmfkaaGreatDoor
open Go.RowKit Go.Shelf Go
set_option maxRecDepth 100000 in
set_option maxHeartbeats 6400000 in
theorem whole_any (W : World) (hE : EG W) (A : Option Addr) (c : Nat) (al : List (List UInt8)) (hRa : Rws W W.heap.size A al) (hla : al.length ≤ c) (hca : c ≤ maxLen) (B : Option Addr) (d : Nat) (bl : List (List UInt8)) (hRb : Rws W W.heap.size B bl) (hlb : bl.length ≤ d) (hdb : d ≤ maxLen)
    (n : Int) (hn : n ≤ 9223372036854775807) (K : Option Addr) (kc : Nat) (ks : List Int) (hks : ∀ (j : Nat) u, ks[j]? = some u → ∃ ad, K = some ad ∧ ad.block < W.heap.size ∧ W.cell? (ad.add j) = some (.int .i64 u)) (hkl : ks.length ≤ kc) (hkc : kc ≤ maxLen) :
    Calls Tryz.prog 4 #[.slice A al.length c, .slice B bl.length d, .int .i64 n, .slice K ks.length kc] W fun e w' => e = .returned (.bool true) ∧ Below W.heap.size W w' := by
  have hx0 : ∀ w (v u : Value), (Instr.extract (.tuple #[v, u]) 0).run Tryz.prog w = .ok v w := fun _ _ _ => by kernel_rfl
  have hx1 : ∀ w (v u : Value), (Instr.extract (.tuple #[v, u]) 1).run Tryz.prog w = .ok u w := fun _ _ _ => by kernel_rfl
  have HKS := Lib.hid hks
  have HEG := Lib.hid hE
  clear hks hE
  go_enter Tryz.func4, Tryz.ntmps4
  go_wp2_with fail
  refine (awake_any W).mono ?_
  rintro e w1 ⟨rfl, hb1⟩
  have nA := BlkIs.new w1 28 #[.int .i64 0, .slice none 0 0, .slice A al.length c, .int .i64 0, .slice none 0 0, .int .i64 0, .slice none 0 0, .slice B bl.length d, .int .i64 0, .slice K ks.length kc]
  have B2 : Below W.heap.size W (w1.alloc (.cells #[.int .i64 0, .slice none 0 0, .slice A al.length c, .int .i64 0, .slice none 0 0, .int .i64 0, .slice none 0 0, .slice B bl.length d, .int .i64 0, .slice K ks.length kc] 28)) := hb1.alloc hb1.size _
  go_wp2_with fail
  generalize (w1.alloc (.cells #[.int .i64 0, .slice none 0 0, .slice A al.length c, .int .i64 0, .slice none 0 0, .int .i64 0, .slice none 0 0, .slice B bl.length d, .int .i64 0, .slice K ks.length kc] 28)) = w2 at *
  refine (few_two w2 w1.heap.size A B K c d ks.length kc al bl nA ((hRa.below B2).more B2.size) ((hRb.below B2).more B2.size) (by omega) (by omega) (by omega)).mono ?_
  rintro e w3 ⟨rfl, hb3⟩
  have B3 := B2.trans (hb3.mono B2.size)
  cases hf : fewR al bl ks.length with
  | false =>
    go_wp2_with fail
    go_ret
    exact ⟨rfl, B3⟩
  | true =>
    by_cases hs : n < 0
    · go_wp2_with fail
      go_ret
      exact ⟨rfl, B3⟩
    · have hfa : fewB al = true := by unfold fewR at hf; rw [Bool.and_eq_true] at hf; exact hf.1
      have hfb : fewB bl = true := by unfold fewR at hf; rw [Bool.and_eq_true, Bool.and_eq_true] at hf; exact hf.2.1
      have HFA := Lib.hid hfa
      have HFB := Lib.hid hfb
      have hal : al.length ≤ 20 := (few_len hfa).1
      have hbl : bl.length ≤ 20 := (few_len hfb).1
      clear hfa hfb hf nA
      go_wp2_with fail
      refine (new_A w3 1048576 (by omega)).mono ?_
      rintro e w4 ⟨Dk, Ft, rfl, h4, hlow, hge, hb4⟩
      have ho := Lib.hid (open_new w4 w3.heap.size Ft Dk 0 _ 1048576 0 0 ⟨#[120]⟩ 524288 h4 hlow (fun _ => rfl) nmOk_x (by omega) (by unfold maxLen; omega) (by omega) (by omega) (by omega) (by omega))
      clear h4
      go_wp2_with fail
      refine ho.out.mono ?_
      rintro e w5 ⟨L, G, Ft2, rfl, h5, hlow2, hf2, hL2, hG2, hT2⟩
      have s3 := B3.size
      have s4 := hb4.size
      have s5 := hT2.size
      have B5 : Below W.heap.size W w5 := (B3.trans (hb4.mono s3)).trans (hT2.below (by omega) (fun i hi e => by have := hge i e; omega))
      have hft2 : ∀ i, Ft2 i → W.heap.size ≤ i := fun i hi => by
        by_cases hlt : i < w4.heap.size
        · have := hge i (hf2 i hlt hi)
          omega
        · omega
      have hOF : OneF (Files.upd (fun _ => none) (fileN ⟨#[120]⟩ 1) (some ([], 0))) [] 0 := by
        refine ⟨by unfold Files.upd; exact if_pos rfl, fun t ht => ?_⟩
        unfold Files.upd
        rw [if_neg ht]
      have hI0 : KW W w3.heap.size Dk L G al 0 w5 := ⟨_, Ft2, h5, hOF, ⟨hlow2, hft2, B5, by omega⟩, by omega, by omega⟩
      have HI0 := Lib.hid hI0
      clear ho h5 hI0 hT2 hOF
      go_wp2_with fail
      go_loopw [40] (fun i wr => ∃ k : Nat, k ≤ al.length ∧ i = .int .i64 k ∧ KW W w3.heap.size Dk L G al k wr) (fun i _ => al.length - (intOf i).toNat)
      case atStart => exact ⟨0, Nat.zero_le _, rfl, HI0.out⟩
      case round =>
        obtain ⟨k, hk, rfl, hI⟩ := hrel
        have hbw : Below W.heap.size W wr := by
          obtain ⟨F, Ft, h1, h2, h3, h4, h5⟩ := hI
          exact h3.2.2.1
        have hRw := (hRa.below hbw).more hbw.size
        by_cases hlt : k < al.length
        · obtain ⟨ad, Ak, ck, rfl, _, hcell, hck, hm, hbt⟩ := hRw.at_ hlt
          have hnx := Lib.hid (kw_next hI HFA.out hlt Ak ck hbt hck hm)
          clear hI hbt hbw hRw
          generalize al.getD k [] = r at *
          go_wp2_with fail
          refine hnx.out.mono ?_
          rintro e w6 ⟨⟨v, rfl⟩, hI6⟩
          have HI6 := Lib.hid hI6
          clear hI6 hnx
          go_wp2_with fail
          go_roundw
          case rel => exact ⟨k + 1, by omega, by go_num, HI6.out⟩
          case measure => simp [intOf]; omega
        · obtain rfl : k = al.length := by omega
          have HSY := Lib.hid (sync_W hI HFA.out)
          clear hI hRw hbw HI0
          go_wp2_with fail
          refine HSY.out.mono ?_
          rintro e w6 ⟨rfl, hS6⟩
          have HAR := Lib.hid (arm_W n hS6)
          clear hS6
          go_wp2_with fail
          refine HAR.out.mono ?_
          rintro e w7 ⟨rfl, hX7⟩
          have hb7 : Below W.heap.size W w7 := by
            obtain ⟨F, Ft, h1, h2, h3, h4, h5⟩ := hX7
            exact h3.2.2.1
          have HRW := Lib.hid (rewr_W hX7 HFA.out HFB.out hn B d ((hRb.below hb7).more hb7.size))
          clear hX7 HAR HSY hb7
          go_wp2_with fail
          refine HRW.out.mono ?_
          rintro e w8 hq
          have HQ : Hid (∃ er : Int, ((er = 0 ∧ ∃ s, s = bl) ∨ (er = 10 ∧ ∃ s, s = al)) ∧ e = .returned (.int .i64 er) ∧ ∀ s, ((er = 0 ∧ s = bl) ∨ (er = 10 ∧ s = al)) → Calls Tryz.prog 13 #[.pointer (some ⟨Dk, 0, none⟩), .slice K ks.length kc] w8 fun e w' => e = .returned (.tuple #[]) ∧ KT W w3.heap.size Dk s w') := Lib.hid (by
            rcases hq with ⟨rfl, hq⟩ | ⟨rfl, hq⟩
            · refine ⟨0, .inl ⟨rfl, bl, rfl⟩, rfl, fun s hs => ?_⟩
              rcases hs with ⟨_, rfl⟩ | ⟨e, _⟩
              · exact start_Wa hq K ks.length kc
              · exact absurd e (by decide)
            · refine ⟨10, .inr ⟨rfl, al, rfl⟩, rfl, fun s hs => ?_⟩
              rcases hs with ⟨e, _⟩ | ⟨_, rfl⟩
              · exact absurd e (by decide)
              · exact start_Wd hq K kc ks hkl HKS.out)
          clear hq HRW
          obtain ⟨er, her, rfl, hst⟩ := HQ.out
          obtain ⟨s, hsd⟩ : ∃ s, (er = 0 ∧ s = bl) ∨ (er = 10 ∧ s = al) := by
            rcases her with ⟨rfl, s, rfl⟩ | ⟨rfl, s, rfl⟩
            · exact ⟨_, .inl ⟨rfl, rfl⟩⟩
            · exact ⟨_, .inr ⟨rfl, rfl⟩⟩
          have HST := Lib.hid (hst s hsd)
          have HSD := Lib.hid hsd
          have hfs : fewB s = true := by
            rcases hsd with ⟨_, rfl⟩ | ⟨_, rfl⟩
            · exact HFB.out
            · exact HFA.out
          have HFS := Lib.hid hfs
          clear HQ hst hsd her hfs
          go_wp2_with fail
          refine HST.out.mono ?_
          rintro e w9 ⟨rfl, hT9⟩
          have HOP := Lib.hid (open_W hT9 HFS.out HEG.out)
          clear hT9 HST
          go_wp2_with fail
          refine HOP.out.mono ?_
          rintro e w10 ⟨L9, G9, rfl, F, Ft3, x9, lf9, k9, hL, ⟨z9, hF⟩, hB9, hN9⟩
          have hsg := segments_L w10 w3.heap.size Ft3 Dk k9 F 1048576 x9 lf9 L9 G9 ⟨#[120]⟩ 524288 (gS [s]) hL (by simp [gS])
          have hgl : (gS [s]).length = 1 := rfl
          rw [hgl] at hsg
          have HG := Lib.hid hsg
          have HL9 := Lib.hid hL
          have HF9 := Lib.hid hF
          clear hsg hL hF HOP hgl
          go_wp2_with fail
          refine HG.out.mono ?_
          rintro e w11 ⟨Ag, cg, rfl, hrow, hb11⟩
          have B11 : Below W.heap.size W w11 := hB9.trans (hb11.mono hB9.size)
          have hs3 := few_len HFS.out
          have ht3 := few_took HFS.out
          have hwl : (YtidadjlhnlmfkaaGreatDoor.wr s).length = took s := wr_length s
          have hrec := records_L w11 w3.heap.size Ft3 Dk k9 F 1048576 x9 lf9 L9 G9 ⟨#[120]⟩ 524288 (gS [s]) 0 s.length (took s) (YtidadjlhnlmfkaaGreatDoor.wr s) z9 (HL9.out.below hb11) (by simp [gS]) nmOk_x rfl HF9.out (by omega)
          rw [recs_wr0 s (fun r hr => by have := hs3.2 r hr; omega), show (((0 : Nat) : Int) + 1) = 1 from rfl] at hrec
          have HREC := Lib.hid hrec
          clear hrow HG hrec hwl ht3
          go_wp2_with fail
          refine HREC.out.mono ?_
          rintro e w12 ⟨A9, c9, rfl, hO9, hb12⟩
          have B12 : Below W.heap.size W w12 := B11.trans (hb12.mono B11.size)
          have hR9 := hO9.rws
          have hRs : Rws w12 w12.heap.size (if er = 0 then B else A) s := by
            rcases HSD.out with ⟨rfl, rfl⟩ | ⟨rfl, rfl⟩
            · rw [if_pos rfl]
              exact (hRb.below B12).more B12.size
            · rw [if_neg (by decide)]
              exact (hRa.below B12).more B12.size
          have HS0 := fun c => same_any A9 (if er = 0 then B else A) w12.heap.size c9 c s w12 hR9 hRs (by unfold maxLen; omega)
          rcases HSD.out with ⟨rfl, rfl⟩ | ⟨rfl, rfl⟩
          · have HS := HS0 d
            rw [if_pos rfl] at HS
            have HSS := Lib.hid HS
            clear HS HS0 hRs hR9 hO9 HREC
            go_wp2_with fail
            refine HSS.out.mono ?_
            rintro e w13 ⟨rfl, hb13⟩
            have BW := B12.trans (hb13.mono B12.size)
            go_wp2_with fail
            go_ret
            exact ⟨rfl, BW⟩
          · have HS := HS0 c
            rw [if_neg (by decide)] at HS
            have HSS := Lib.hid HS
            clear HS HS0 hRs hR9 hO9 HREC
            go_wp2_with fail
            refine HSS.out.mono ?_
            rintro e w13 ⟨rfl, hb13⟩
            have BW := B12.trans (hb13.mono B12.size)
            go_wp2_with fail
            go_ret
            exact ⟨rfl, BW⟩
end Go.Proofs.YtidadjlhnlmfkaaGreatDoor
