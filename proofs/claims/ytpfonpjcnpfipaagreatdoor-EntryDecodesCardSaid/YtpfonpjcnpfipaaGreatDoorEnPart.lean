/- Decode's closures: a part, a text, a number. Conditions: as stated at each. -/
import Derived.Test.YtpfonpjcnpfipaaGreatDoorEnCut
import Derived.Test.YtpfonpjcnpfipaaGreatDoorEnChk
namespace Go.Proofs.YtpfonpjcnpfipaaGreatDoor
set_option maxRecDepth 100000
namespace En
open Go.RowKit Go Go.Proofs.YtpfonpjcnpfipaaGreatDoor.Pa
attribute [local go_sem] Oper.semAt_some
/-- block R holds what is left. -/
def RdS (w : World) (N R : Nat) (l : L) : Prop := ∃ A c, BlkIs w R 22 #[.slice A l.length c] ∧ Bts w N A l ∧ l.length ≤ c ∧ c ≤ maxLen ∧ (A = none → c = 0)
theorem RdS.tn {p : Nat → Prop} {w w' : World} {N R : Nat} {l : L} (h : RdS w N R l) (ht : Tn p w w') (hR : ¬ p R) (hN : N ≤ w.heap.size) (hp : ∀ i, i < N → ¬ p i) : RdS w' N R l := by
  obtain ⟨A, c, h1, h2, h3⟩ := h
  exact ⟨A, c, h1.tn ht hR, h2.below (ht.below hN hp), h3⟩
abbrev partV (R : Nat) : Value := .func (.func 21) #[] #[.pointer (some ⟨R, 0, none⟩)]
abbrev textV (P : Nat) : Value := .func (.func 24) #[] #[.pointer (some ⟨P, 0, none⟩)]
abbrev numV (T : Nat) : Value := .func (.func 25) #[] #[.pointer (some ⟨T, 0, none⟩)]
def PartQ (w : World) (N R : Nat) (l : L) (e : Ending) (w' : World) : Prop := Tn (fun k => k = R) w w' ∧
  ((takeS l = none ∧ e = Fa.bad 150) ∨ ∃ p r, takeS l = some (p, r) ∧ RdS w' N R r ∧ ∃ A c, e = .returned (.slice A p.length c) ∧ Bts w' N A p ∧ p.length ≤ c ∧ c ≤ maxLen)
set_option maxHeartbeats 1600000 in
theorem part_any {w : World} {N R : Nat} {l : L} (h : RdS w N R l) (hNR : N ≤ R) (hl : l.length ≤ 1000000) (hG : GlT w) (hE : GlE w) :
    Calls Tryz.prog 21 #[.pointer (some ⟨R, 0, none⟩)] w (PartQ w N R l) := by
  obtain ⟨A, c, hR, hb, hc, hm, hA⟩ := h
  have hRlt := hR.lt
  have hNw : N ≤ w.heap.size := by omega
  have hC := ecut_any hb hNw c hc hm hA hl hG hE
  unfold CutP at hC
  have HC := Lib.hid hC
  have HR := Lib.hid hR
  have y0 := (hR.cell 0).trans (rfl : _ = some (Value.slice A l.length c))
  clear hC hR hb hG hE hA
  unfold PartQ
  generalize hll : l.length = ln at *
  have HLN := Lib.hid hll
  clear hll
  generalize takeS l = tk at *
  go_enter Tryz.func21, Tryz.ntmps21
  go_wp2_with fail
  refine HC.out.mono ?_
  rintro e w' ⟨hb, ⟨hn, rfl⟩ | ⟨p, r, hs, A1, c1, A2, c2, rfl, h1, h2, h3, h4, h5, h6, h7, h8⟩⟩
  · have HT := Lib.hid (Tn.of_below (p := fun k => k = R) hb)
    clear hb HC
    go_wp2_with (first
      | (go_at_call 23; refine (ned_f rfl _).mono ?_; rintro e w' ⟨rfl, rfl⟩)
      | fail)
    first | exact ⟨rfl, HT.out, .inl ⟨hn, rfl⟩⟩ | exact ⟨HT.out, .inl ⟨hn, rfl⟩⟩ | exact ⟨rfl, HT.out, .inl ⟨hn, rfl, rfl⟩⟩
  · have hR' : BlkIs w' R 22 #[.slice A ln c] := (hb.block _ HR.out.lt).trans HR.out
    have z0 := (hR'.cell 0).trans (rfl : _ = some (Value.slice A ln c))
    have zf := hR'.froz 0
    have hbN := hb.mono hNw
    have HF : Hid (Tn (fun k => k = R) w (w'.setCell ⟨R, 0, none⟩ (.slice A2 r.length c2)) ∧ RdS (w'.setCell ⟨R, 0, none⟩ (.slice A2 r.length c2)) N R r ∧ Bts (w'.setCell ⟨R, 0, none⟩ (.slice A2 r.length c2)) N A1 p) := Lib.hid (by
      have hst : Below N w (w'.setCell ⟨R, 0, none⟩ (.slice A2 r.length c2)) := hbN.setCell hNR _
      exact ⟨(Tn.of_below (p := fun k => k = R) hb).setCell (.inl rfl) _, ⟨A2, c2, hR'.put 0 _, h5.below hst, h6, Nat.le_trans h7 hm, h8⟩, h1.below hst⟩)
    clear hb hR' hbN HC h1 h5
    generalize hpn : p.length = pn at *
    have HPN := Lib.hid hpn
    clear hpn
    generalize r.length = rn at *
    go_wp2_with (first
      | (go_at_call 23; refine (ned_t rfl _).mono ?_; rintro e w' ⟨rfl, rfl⟩)
      | fail)
    go_ret
    exact ⟨HF.out.1, .inr ⟨p, r, hs, HF.out.2.1, A1, c1, by rw [HPN.out]; rfl, HF.out.2.2, by rw [HPN.out]; exact h2, Nat.le_trans h3 hm⟩⟩
def TextQ (w : World) (N R : Nat) (l : L) (e : Ending) (w' : World) : Prop := Tn (fun k => k = R) w w' ∧
  ((takeS l = none ∧ e = Fa.bad 150) ∨ ∃ p r, takeS l = some (p, r) ∧ RdS w' N R r ∧ e = .returned (.string (str p)))
set_option maxHeartbeats 1600000 in
theorem text_any {w : World} {N R P : Nat} {l : L} (h : RdS w N R l) (hP : BlkIs w P 51 #[partV R]) (hNR : N ≤ R) (hl : l.length ≤ 1000000) (hG : GlT w) (hE : GlE w) :
    Calls Tryz.prog 24 #[.pointer (some ⟨P, 0, none⟩)] w (TextQ w N R l) := by
  have hC := part_any h hNR hl hG hE
  unfold PartQ at hC
  have HC := Lib.hid hC
  have y0 := (hP.cell 0).trans (rfl : _ = some (partV R))
  clear hC hP hG hE h
  unfold TextQ
  go_enter Tryz.func24, Tryz.ntmps24
  go_wp2_with fail
  refine HC.out.mono ?_
  rintro e w' ⟨ht, ⟨hn, rfl⟩ | ⟨p, r, hs, hr, A, c, rfl, hb, hc, hm⟩⟩
  · first | exact ⟨rfl, ht, .inl ⟨hn, rfl⟩⟩ | exact ⟨ht, .inl ⟨hn, rfl⟩⟩
  · have hcv := conv_str hb c
    have HF := Lib.hid (And.intro ht hr)
    clear ht hr hb HC
    generalize p.length = pn at *
    go_wp2_with fail
    go_ret
    exact ⟨HF.out.1, .inr ⟨p, r, hs, HF.out.2, rfl⟩⟩
def NumQ (w : World) (N R : Nat) (l : L) (e : Ending) (w' : World) : Prop := Tn (fun k => k = R) w w' ∧
  ((takeS l = none ∧ e = Fa.bad 150) ∨ ∃ p r, takeS l = some (p, r) ∧ (((∀ v, Lib.parseIntB 64 p ≠ .ok v) ∧ e = Fa.bad 150) ∨ ∃ v, Lib.parseIntB 64 p = .ok v ∧ RdS w' N R r ∧ e = .returned (.int .i64 v)))
set_option maxHeartbeats 1600000 in
theorem num_any {w : World} {N R P T : Nat} {l : L} (h : RdS w N R l) (hP : BlkIs w P 51 #[partV R]) (hT : BlkIs w T 52 #[textV P]) (hNR : N ≤ R) (hl : l.length ≤ 1000000) (hG : GlT w) (hE : GlE w) (hgN : 1 < N ∧ 2 < N) :
    Calls Tryz.prog 25 #[.pointer (some ⟨T, 0, none⟩)] w (NumQ w N R l) := by
  have hC := text_any h hP hNR hl hG hE
  unfold TextQ at hC
  have HC := Lib.hid hC
  have y0 := (hT.cell 0).trans (rfl : _ = some (textV P))
  have hNw : N ≤ w.heap.size := by obtain ⟨_, _, h1, _⟩ := h; have := h1.lt; omega
  have HGE := Lib.hid (fun (X : World) (hX : Tn (fun k => k = R) w X) => hE.below (hX.below hNw fun i hi e => by omega) hgN)
  have HPL : Hid (∀ p r, takeS l = some (p, r) → p.length ≤ 1000000) := Lib.hid fun p r e => (take_iff.1 e).2
  clear hC hP hT hG hE h
  unfold NumQ
  generalize takeS l = tk at *
  go_enter Tryz.func25, Tryz.ntmps25
  go_wp2_with fail
  refine HC.out.mono ?_
  rintro e w' ⟨ht, ⟨hn, rfl⟩ | ⟨p, r, hs, hr, rfl⟩⟩
  · first | exact ⟨rfl, ht, .inl ⟨hn, rfl⟩⟩ | exact ⟨ht, .inl ⟨hn, rfl⟩⟩
  · have HPI := Lib.hid (parse_int p (HPL.out p r hs) w' (HGE.out w' ht))
    have HF := Lib.hid (And.intro ht hr)
    clear ht hr HC
    have HS := Lib.hid hs
    clear hs
    generalize hsp : str p = sp at *
    clear hsp
    go_wp2_with fail
    refine HPI.out.mono ?_
    rintro e w2 ⟨hb2, ⟨v, hv, rfl⟩ | ⟨hv, v, M, rfl⟩⟩
    · have HT2 : Hid (Tn (fun k => k = R) w w2) := Lib.hid (HF.out.1.trans (Tn.of_below hb2))
      have HR2 : Hid (RdS w2 N R r) := Lib.hid (HF.out.2.tn (p := fun _ => False) (Tn.of_below hb2) (fun e => e) (by have := HF.out.1.size; omega) (fun _ _ e => e))
      have HV := Lib.hid hv
      clear hb2 hv HPI
      go_wp2_with (first
        | (go_at_call 23; refine (ned_t rfl _).mono ?_; rintro e w' ⟨rfl, rfl⟩)
        | fail)
      go_ret
      exact ⟨HT2.out, .inr ⟨p, r, HS.out, .inr ⟨v, HV.out, HR2.out, rfl⟩⟩⟩
    · have HT2 : Hid (Tn (fun k => k = R) w w2) := Lib.hid (HF.out.1.trans (Tn.of_below hb2))
      have HV := Lib.hid hv
      clear hb2 hv HPI
      go_wp2_with (first
        | (go_at_call 23; refine (ned_f rfl _).mono ?_; rintro e w' ⟨rfl, rfl⟩)
        | fail)
      first | exact ⟨rfl, HT2.out, .inr ⟨p, r, HS.out, .inl ⟨HV.out, rfl⟩⟩⟩ | exact ⟨HT2.out, .inr ⟨p, r, HS.out, .inl ⟨HV.out, rfl⟩⟩⟩ | exact ⟨rfl, HT2.out, .inr ⟨p, r, HS.out, .inl ⟨HV.out, rfl, rfl⟩⟩⟩
end En
end Go.Proofs.YtpfonpjcnpfipaaGreatDoor
