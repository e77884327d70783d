/- The closed example; few. Conditions: as stated at each. -/
import Derived.Test.YtamekflgidfnfaaGreatDoorMiReptN
namespace Go.Proofs.YtamekflgidfnfaaGreatDoor
set_option maxRecDepth 100000
namespace Mi
open Go.RowKit Go Go.Proofs.YtamekflgidfnfaaGreatDoor.Pa
attribute [local go_sem] Oper.semAt_some
def exE : Env := ([], [[97, 64, 98]], 0)
theorem exE_small : SmallE exE := ⟨by decide, fun k => by
  rcases Nat.eq_zero_or_pos k with h | h
  · subst h; decide
  · unfold exE
    simp only [List.getD]
    rw [List.getElem?_eq_none (by simp; omega)]
    decide, by decide, by decide, by decide⟩
set_option maxHeartbeats 1600000 in
theorem awake_any (w : World) (hT : GlT w) (hG : GlM w) : Calls Tryz.prog 9 #[] w fun r w' => r = .returned (.bool true) ∧ Below w.heap.size w w' := by
  have hcv := conv_const
  have HGT := Lib.hid (fun (X : World) (hX : Below w.heap.size w X) => And.intro (hT.below hX hT.lt) (hG.below hX hG.lt))
  have hba := belowA w (.cells #[.string ⟨#[97, 64, 98]⟩] 9)
  have HR : Hid (Calls Tryz.prog 21 #[.agg #[.string ⟨#[]⟩, .slice (some ⟨w.heap.size, 0, none⟩) 1 1, .int .i64 0], .slice none 0 0] (w.alloc (.cells #[.string ⟨#[97, 64, 98]⟩] 9)) (RepP (w.alloc (.cells #[.string ⟨#[97, 64, 98]⟩] 9)) exE [])) := Lib.hid (by
    have htx := (tx_lit w #[.string ⟨#[97, 64, 98]⟩] [[97, 64, 98]] rfl)
    exact report_any (e := exE) (A := none) (l := []) ⟨_, 1, rfl, htx.more (by simp), by decide, by decide⟩ exE_small Cs.nil 0 (by decide) (by decide) (fun _ => rfl) (by decide) (HGT.out _ hba).1 (HGT.out _ hba).2)
  have HE0 : Hid (errS exE [] = 0) := Lib.hid ex_rep.1
  have HL0 : Hid (100 < (repS exE []).length) := Lib.hid ex_rep.2
  have HBN : Hid (∀ X, Below w.heap.size w X → Calls Tryz.prog 22 #[.slice (some ⟨X.heap.size, 0, none⟩) 11 11] (X.alloc (.cells #[.int .u8 45, .int .u8 45, .int .u8 106, .int .u8 111, .int .u8 117, .int .u8 114, .int .u8 110, .int .u8 97, .int .u8 108, .int .u8 45, .int .u8 48] 5 (11, 12))) fun r w' => r = .returned (.string ⟨#[106, 111, 117, 114, 110, 97, 108, 45, 49]⟩) ∧ Below X.heap.size X w') := Lib.hid fun X hX => by
    have hb := hX.alloc hX.size (.cells #[.int .u8 45, .int .u8 45, .int .u8 106, .int .u8 111, .int .u8 117, .int .u8 114, .int .u8 110, .int .u8 97, .int .u8 108, .int .u8 45, .int .u8 48] 5 (11, 12))
    have := boundary_any ((bts_new X exB _ (11, 12) rfl).more (by simp)) 11 (by decide) (by decide) (fun e => by cases e) (by decide) (HGT.out _ hb).2 (HGT.out _ hb).1
    refine this.mono ?_
    rintro r w' ⟨rfl, h2⟩
    refine ⟨by rw [ex_bnd.2]; rfl, ((Below.refl _ X).alloc (Nat.le_refl _) _).trans (h2.mono (by simp))⟩
  have HBA := Lib.hid hba
  clear hba
  go_enter Tryz.func9, Tryz.ntmps9
  go_wp2_with fail
  refine HR.out.mono ?_
  rintro r w2 ⟨hb2, v, rfl, hq⟩
  rcases hq with ⟨_, A2, c2, rfl, _⟩ | ⟨h1, _⟩
  · have HB2 := Lib.hid (HBA.out.trans (hb2.mono HBA.out.size))
    have hl := HL0.out
    rw [HE0.out]
    generalize (repS exE []).length = rn at *
    have hrn : (100 : Int) < (rn : Int) := by omega
    clear hb2 hl
    go_wp2_with fail
    refine (HBN.out _ HB2.out).mono ?_
    rintro r w3 ⟨rfl, hb3⟩
    go_wp2_with fail
    go_ret
    exact ⟨by first | rfl | (simp; omega), HB2.out.trans (hb3.mono HB2.out.size)⟩
  · exact absurd HE0.out h1
/-- what few answers: whether all is small. -/
def FewP (w : World) (sf : ByteArray) (n ln : Nat) (r : Ending) (w' : World) : Prop := (∃ b : Bool, r = .returned (.bool b) ∧ (b = true → sf.size ≤ 300 ∧ (n ≤ 10 ∨ n = 101) ∧ ln ≤ 1000)) ∧ Below w.heap.size w w'
end Mi
end Go.Proofs.YtamekflgidfnfaaGreatDoor
