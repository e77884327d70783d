/- The statement on Put and Take. Conditions: as stated at each. -/
import Derived.Test.YtpfonpjcnpfipaaDoorEnAwake
import Derived.Test.YtpfonpjcnpfipaaDoorEnRPut
import Derived.Test.YtpfonpjcnpfipaaDoorEnRTake
import Derived.Test.YtpfonpjcnpfipaaDoorRgMany
namespace Go.Proofs.YtpfonpjcnpfipaaDoor
set_option maxRecDepth 100000
namespace En
open Go.RowKit Go Go.Proofs.YtpfonpjcnpfipaaDoor.Pa
attribute [local go_sem] Oper.semAt_some
def RwV (w : World) (v : Value) (ls : List L) : Prop := ∃ g, v = .slice (some ⟨g, 0, none⟩) 2 2 ∧ Rws w w.heap.size (some ⟨g, 0, none⟩) ls
/-- what the two ways to put parts together yield on their way. -/
def PhP (ls : List L) (k : Nat) (v : Value) (w : World) : Prop := match k with
  | 0 => RwV w v ls
  | 3 => RwV w v ls
  | 1 => SlV w v (putS ls)
  | 4 => SlV w v (putS ls)
  | _ => v = .string (str (putS ls))
theorem PhP.below {ls : List L} {k : Nat} {v : Value} {w w' : World} (h : PhP ls k v w) (hb : Below w.heap.size w w') : PhP ls k v w' := by
  have hr : RwV w v ls → RwV w' v ls := fun ⟨g, e, h⟩ => ⟨g, e, (h.below hb).more hb.size⟩
  unfold PhP at h ⊢
  split at h
  · exact hr h
  · exact hr h
  · exact SlV.below h hb
  · exact SlV.below h hb
  · exact h
theorem put_len2 (a b : L) (h1 : a.length ≤ 2000) (h2 : b.length ≤ 2000) : (putS [a, b]).length ≤ 10000 := by
  have ha := dec_len (n := a.length) (by omega)
  have hb := dec_len (n := b.length) (by omega)
  rw [put_cons, put_one, List.length_append]
  simp only [partS, List.length_append, List.length_cons, List.length_nil]
  omega
set_option maxHeartbeats 6400000 in
theorem lputs_any {w0 : World} {A A' : Option Addr} {a b : L} {ca cb : Nat} (ha : Bts w0 w0.heap.size A a) (hca : a.length ≤ ca) (hma : ca ≤ maxLen) (hb : Bts w0 w0.heap.size A' b) (hcb : b.length ≤ cb) (hmb : cb ≤ maxLen) (hnb : A' = none → cb = 0) (hG : GlT w0) (hE : GlE w0) :
    Calls Tryd.prog 3 #[.slice A a.length ca, .slice A' b.length cb] w0 fun e w' => e = .returned (.bool true) ∧ Below w0.heap.size w0 w' := by
  have HG := Lib.hid (fun (X : World) (hX : Below w0.heap.size w0 X) => And.intro (hG.below hX hG.lt) (hE.below hX hE.lt))
  have HAW := Lib.hid (fun X (hX : Below w0.heap.size w0 X) => awake_any X (hG.below hX hG.lt))
  have HSA : Hid (∀ X, Below w0.heap.size w0 X → SlV X (.slice A a.length ca) a) := Lib.hid fun X hX => ⟨A, ca, rfl, (ha.below hX).more hX.size, hca, hma⟩
  have HSB : Hid (∀ X, Below w0.heap.size w0 X → SlV X (.slice A' b.length cb) b) := Lib.hid fun X hX => ⟨A', cb, rfl, (hb.below hX).more hX.size, hcb, hmb⟩
  have HTK := Lib.hid (fun X (hX : Below w0.heap.size w0 X) (hl : b.length ≤ 2000) => take_any (w := X) (B := X.heap.size) ((hb.below hX).more hX.size) (Nat.le_refl _) cb hcb hmb hnb (by omega) (HG.out X hX).1 (HG.out X hX).2)
  have HRT := Lib.hid (fun X (hX : Below w0.heap.size w0 X) (hl : b.length ≤ 2000) => rtake_any (w0 := X) (B := X.heap.size) ((hb.below hX).more hX.size) (Nat.le_refl _) cb hcb hnb (by omega))
  have HCB := Lib.hid (fun X (hX : Below w0.heap.size w0 X) => conv_str (hb.below hX) cb)
  have HLEN : Hid (a.length ≤ 2000 → b.length ≤ 2000 → (putS [a, b]).length ≤ 100000000) := Lib.hid fun h1 h2 => by
    have := put_len2 a b h1 h2
    omega
  clear ha hb hG hE
  unfold TakeP at HTK
  unfold RTakeP at HRT
  generalize hal : a.length = na at *
  generalize hbl : b.length = nb at *
  have HNL := Lib.hid (And.intro hal hbl)
  clear hal hbl
  go_enter Tryd.func3, Tryd.ntmps3
  go_wp2_with fail
  refine (HAW.out w0 (Below.refl _ _)).mono ?_
  rintro e w2 ⟨rfl, hb2⟩
  have HB2 := Lib.hid hb2
  clear hb2 HAW
  go_wp2_with fail
  have hb5 : Below w0.heap.size w0 w2.drew := HB2.out.drew
  clear HB2
  refine wp_region_held_drew (S := (fun Y => Below w0.heap.size w0 Y)) (by kernel_rfl) (hb5) (fun hHeld => ?_)
  clear hb5
  generalize w2.drew = w3 at *
  have HB3 := Lib.hid hHeld
  by_cases h1 : (2000 : Int) < na
  · skip
    refine wpAnyH_take (i := 0) (v := .slice A na ca) rfl (by kernel_rfl) (by kernel_rfl) (by kernel_rfl) (fun _ _ _ h => h) (Or.inl ⟨by rfl, fun w hS => by first | (go_simp; done) | (go_simp; with_reducible rfl)⟩) hHeld ?_
    try simp only [Act.put, List.getElem_toArray, List.getElem_cons_zero, List.setIfInBounds_toArray, List.set_cons_zero, List.set_cons_succ]
    refine wpAnyH_take (i := 1) (v := .int .i64 na) rfl (by kernel_rfl) (by kernel_rfl) (by kernel_rfl) (fun _ _ _ h => h) (Or.inl ⟨by rfl, fun w hS => by first | (go_simp; done) | (go_simp; with_reducible rfl)⟩) hHeld ?_
    try simp only [Act.put, List.getElem_toArray, List.getElem_cons_zero, List.getElem_cons_succ, List.setIfInBounds_toArray, List.set_cons_zero, List.set_cons_succ]
    refine wpAnyH_take (i := 2) (v := .bool true) rfl (by kernel_rfl) (by kernel_rfl) (by kernel_rfl) (fun _ _ _ h => h) (Or.inl ⟨by rfl, fun w hS => by first | (go_simp; done) | (go_simp; with_reducible rfl)⟩) hHeld ?_
    try simp only [Act.put, List.getElem_toArray, List.getElem_cons_zero, List.getElem_cons_succ, List.setIfInBounds_toArray, List.set_cons_zero, List.set_cons_succ]
    refine wpAnyH_take (i := 3) (v := .bool true) rfl (by kernel_rfl) (by kernel_rfl) (by kernel_rfl) (fun _ _ _ h => h) (Or.inl ⟨by rfl, fun w hS => by first | (go_simp; done) | (go_simp; with_reducible rfl)⟩) hHeld ?_
    try simp only [Act.put, List.getElem_toArray, List.getElem_cons_zero, List.getElem_cons_succ, List.setIfInBounds_toArray, List.set_cons_zero, List.set_cons_succ]
    refine wpAnyH_take (i := 4) (v := undef) rfl (by kernel_rfl) (by kernel_rfl) (by kernel_rfl) (fun _ _ _ h => h) (Or.inr ⟨by rfl, rfl⟩) hHeld ?_
    try simp only [Act.put, List.getElem_toArray, List.getElem_cons_zero, List.getElem_cons_succ, List.setIfInBounds_toArray, List.set_cons_zero, List.set_cons_succ]
    refine wpAnyH_take (i := 5) (v := undef) rfl (by kernel_rfl) (by kernel_rfl) (by kernel_rfl) (fun _ _ _ h => h) (Or.inr ⟨by rfl, rfl⟩) hHeld ?_
    try simp only [Act.put, List.getElem_toArray, List.getElem_cons_zero, List.getElem_cons_succ, List.setIfInBounds_toArray, List.set_cons_zero, List.set_cons_succ]
    refine wpAnyH_take (i := 6) (v := undef) rfl (by kernel_rfl) (by kernel_rfl) (by kernel_rfl) (fun _ _ _ h => h) (Or.inr ⟨by rfl, rfl⟩) hHeld ?_
    try simp only [Act.put, List.getElem_toArray, List.getElem_cons_zero, List.getElem_cons_succ, List.setIfInBounds_toArray, List.set_cons_zero, List.set_cons_succ]
    refine wpAnyH_take (i := 7) (v := .bool true) rfl (by kernel_rfl) (by kernel_rfl) (by kernel_rfl) (fun _ _ _ h => h) (Or.inl ⟨by rfl, fun w hS => by first | (go_simp; done) | (go_simp; with_reducible rfl)⟩) hHeld ?_
    try simp only [Act.put, List.getElem_toArray, List.getElem_cons_zero, List.getElem_cons_succ, List.setIfInBounds_toArray, List.set_cons_zero, List.set_cons_succ]
    refine wpAnyH_take (i := 8) (v := .bool true) rfl (by kernel_rfl) (by kernel_rfl) (by kernel_rfl) (fun _ _ _ h => h) (Or.inl ⟨by rfl, fun w hS => by first | (go_simp; done) | (go_simp; with_reducible rfl)⟩) hHeld ?_
    try simp only [Act.put, List.getElem_toArray, List.getElem_cons_zero, List.getElem_cons_succ, List.setIfInBounds_toArray, List.set_cons_zero, List.set_cons_succ]
    refine wpAnyH_take (i := 9) (v := undef) rfl (by kernel_rfl) (by kernel_rfl) (by kernel_rfl) (fun _ _ _ h => h) (Or.inr ⟨by rfl, rfl⟩) hHeld ?_
    try simp only [Act.put, List.getElem_toArray, List.getElem_cons_zero, List.getElem_cons_succ, List.setIfInBounds_toArray, List.set_cons_zero, List.set_cons_succ]
    refine wpAnyH_take (i := 10) (v := undef) rfl (by kernel_rfl) (by kernel_rfl) (by kernel_rfl) (fun _ _ _ h => h) (Or.inr ⟨by rfl, rfl⟩) hHeld ?_
    try simp only [Act.put, List.getElem_toArray, List.getElem_cons_zero, List.getElem_cons_succ, List.setIfInBounds_toArray, List.set_cons_zero, List.set_cons_succ]
    refine wpAnyH_take (i := 11) (v := undef) rfl (by kernel_rfl) (by kernel_rfl) (by kernel_rfl) (fun _ _ _ h => h) (Or.inr ⟨by rfl, rfl⟩) hHeld ?_
    try simp only [Act.put, List.getElem_toArray, List.getElem_cons_zero, List.getElem_cons_succ, List.setIfInBounds_toArray, List.set_cons_zero, List.set_cons_succ]
    refine wpAnyH_take (i := 12) (v := undef) rfl (by kernel_rfl) (by kernel_rfl) (by kernel_rfl) (fun _ _ _ h => h) (Or.inr ⟨by rfl, rfl⟩) hHeld ?_
    try simp only [Act.put, List.getElem_toArray, List.getElem_cons_zero, List.getElem_cons_succ, List.setIfInBounds_toArray, List.set_cons_zero, List.set_cons_succ]
    refine wpAnyH_take (i := 13) (v := undef) rfl (by kernel_rfl) (by kernel_rfl) (by kernel_rfl) (fun _ _ _ h => h) (Or.inr ⟨by rfl, rfl⟩) hHeld ?_
    try simp only [Act.put, List.getElem_toArray, List.getElem_cons_zero, List.getElem_cons_succ, List.setIfInBounds_toArray, List.set_cons_zero, List.set_cons_succ]
    refine wpAnyH_take (i := 14) (v := undef) rfl (by kernel_rfl) (by kernel_rfl) (by kernel_rfl) (fun _ _ _ h => h) (Or.inr ⟨by rfl, rfl⟩) hHeld ?_
    try simp only [Act.put, List.getElem_toArray, List.getElem_cons_zero, List.getElem_cons_succ, List.setIfInBounds_toArray, List.set_cons_zero, List.set_cons_succ]
    refine wpAnyH_take (i := 15) (v := undef) rfl (by kernel_rfl) (by kernel_rfl) (by kernel_rfl) (fun _ _ _ h => h) (Or.inr ⟨by rfl, rfl⟩) hHeld ?_
    try simp only [Act.put, List.getElem_toArray, List.getElem_cons_zero, List.getElem_cons_succ, List.setIfInBounds_toArray, List.set_cons_zero, List.set_cons_succ]
    refine wpAnyH_take (i := 16) (v := undef) rfl (by kernel_rfl) (by kernel_rfl) (by kernel_rfl) (fun _ _ _ h => h) (Or.inr ⟨by rfl, rfl⟩) hHeld ?_
    try simp only [Act.put, List.getElem_toArray, List.getElem_cons_zero, List.getElem_cons_succ, List.setIfInBounds_toArray, List.set_cons_zero, List.set_cons_succ]
    refine wpAnyH_take (i := 17) (v := undef) rfl (by kernel_rfl) (by kernel_rfl) (by kernel_rfl) (fun _ _ _ h => h) (Or.inr ⟨by rfl, rfl⟩) hHeld ?_
    try simp only [Act.put, List.getElem_toArray, List.getElem_cons_zero, List.getElem_cons_succ, List.setIfInBounds_toArray, List.set_cons_zero, List.set_cons_succ]
    refine wpAnyH_take (i := 18) (v := undef) rfl (by kernel_rfl) (by kernel_rfl) (by kernel_rfl) (fun _ _ _ h => h) (Or.inr ⟨by rfl, rfl⟩) hHeld ?_
    try simp only [Act.put, List.getElem_toArray, List.getElem_cons_zero, List.getElem_cons_succ, List.setIfInBounds_toArray, List.set_cons_zero, List.set_cons_succ]
    refine wpAnyH_take (i := 19) (v := undef) rfl (by kernel_rfl) (by kernel_rfl) (by kernel_rfl) (fun _ _ _ h => h) (Or.inr ⟨by rfl, rfl⟩) hHeld ?_
    try simp only [Act.put, List.getElem_toArray, List.getElem_cons_zero, List.getElem_cons_succ, List.setIfInBounds_toArray, List.set_cons_zero, List.set_cons_succ]
    refine wpAnyH_take (i := 20) (v := .bool true) rfl (by kernel_rfl) (by kernel_rfl) (by kernel_rfl) (fun _ _ _ h => h) (Or.inl ⟨by rfl, fun w hS => by first | (go_simp; done) | (go_simp; with_reducible rfl)⟩) hHeld ?_
    try simp only [Act.put, List.getElem_toArray, List.getElem_cons_zero, List.getElem_cons_succ, List.setIfInBounds_toArray, List.set_cons_zero, List.set_cons_succ]
    refine wpAnyH_done (by kernel_rfl) ?_ _
    go_wp2_with fail
    go_ret
    exact ⟨rfl, HB3.out⟩
  · by_cases h2 : (2000 : Int) < nb
    · skip
      refine wpAnyH_take (i := 0) (v := .slice A na ca) rfl (by kernel_rfl) (by kernel_rfl) (by kernel_rfl) (fun _ _ _ h => h) (Or.inl ⟨by rfl, fun w hS => by first | (go_simp; done) | (go_simp; with_reducible rfl)⟩) hHeld ?_
      try simp only [Act.put, List.getElem_toArray, List.getElem_cons_zero, List.setIfInBounds_toArray, List.set_cons_zero, List.set_cons_succ]
      refine wpAnyH_take (i := 1) (v := .int .i64 na) rfl (by kernel_rfl) (by kernel_rfl) (by kernel_rfl) (fun _ _ _ h => h) (Or.inl ⟨by rfl, fun w hS => by first | (go_simp; done) | (go_simp; with_reducible rfl)⟩) hHeld ?_
      try simp only [Act.put, List.getElem_toArray, List.getElem_cons_zero, List.getElem_cons_succ, List.setIfInBounds_toArray, List.set_cons_zero, List.set_cons_succ]
      refine wpAnyH_take (i := 2) (v := .bool false) rfl (by kernel_rfl) (by kernel_rfl) (by kernel_rfl) (fun _ _ _ h => h) (Or.inl ⟨by rfl, fun w hS => by first | (go_simp; done) | (go_simp; with_reducible rfl)⟩) hHeld ?_
      try simp only [Act.put, List.getElem_toArray, List.getElem_cons_zero, List.getElem_cons_succ, List.setIfInBounds_toArray, List.set_cons_zero, List.set_cons_succ]
      refine wpAnyH_take (i := 3) (v := .bool false) rfl (by kernel_rfl) (by kernel_rfl) (by kernel_rfl) (fun _ _ _ h => h) (Or.inl ⟨by rfl, fun w hS => by first | (go_simp; done) | (go_simp; with_reducible rfl)⟩) hHeld ?_
      try simp only [Act.put, List.getElem_toArray, List.getElem_cons_zero, List.getElem_cons_succ, List.setIfInBounds_toArray, List.set_cons_zero, List.set_cons_succ]
      refine wpAnyH_take (i := 4) (v := .slice A' nb cb) rfl (by kernel_rfl) (by kernel_rfl) (by kernel_rfl) (fun _ _ _ h => h) (Or.inl ⟨by rfl, fun w hS => by first | (go_simp; done) | (go_simp; with_reducible rfl)⟩) hHeld ?_
      try simp only [Act.put, List.getElem_toArray, List.getElem_cons_zero, List.getElem_cons_succ, List.setIfInBounds_toArray, List.set_cons_zero, List.set_cons_succ]
      refine wpAnyH_take (i := 5) (v := .int .i64 nb) rfl (by kernel_rfl) (by kernel_rfl) (by kernel_rfl) (fun _ _ _ h => h) (Or.inl ⟨by rfl, fun w hS => by first | (go_simp; done) | (go_simp; with_reducible rfl)⟩) hHeld ?_
      try simp only [Act.put, List.getElem_toArray, List.getElem_cons_zero, List.getElem_cons_succ, List.setIfInBounds_toArray, List.set_cons_zero, List.set_cons_succ]
      refine wpAnyH_take (i := 6) (v := .bool true) rfl (by kernel_rfl) (by kernel_rfl) (by kernel_rfl) (fun _ _ _ h => h) (Or.inl ⟨by rfl, fun w hS => by first | (go_simp; done) | (go_simp; with_reducible rfl)⟩) hHeld ?_
      try simp only [Act.put, List.getElem_toArray, List.getElem_cons_zero, List.getElem_cons_succ, List.setIfInBounds_toArray, List.set_cons_zero, List.set_cons_succ]
      refine wpAnyH_take (i := 7) (v := .bool true) rfl (by kernel_rfl) (by kernel_rfl) (by kernel_rfl) (fun _ _ _ h => h) (Or.inl ⟨by rfl, fun w hS => by first | (go_simp; done) | (go_simp; with_reducible rfl)⟩) hHeld ?_
      try simp only [Act.put, List.getElem_toArray, List.getElem_cons_zero, List.getElem_cons_succ, List.setIfInBounds_toArray, List.set_cons_zero, List.set_cons_succ]
      refine wpAnyH_take (i := 8) (v := .bool true) rfl (by kernel_rfl) (by kernel_rfl) (by kernel_rfl) (fun _ _ _ h => h) (Or.inl ⟨by rfl, fun w hS => by first | (go_simp; done) | (go_simp; with_reducible rfl)⟩) hHeld ?_
      try simp only [Act.put, List.getElem_toArray, List.getElem_cons_zero, List.getElem_cons_succ, List.setIfInBounds_toArray, List.set_cons_zero, List.set_cons_succ]
      refine wpAnyH_take (i := 9) (v := undef) rfl (by kernel_rfl) (by kernel_rfl) (by kernel_rfl) (fun _ _ _ h => h) (Or.inr ⟨by rfl, rfl⟩) hHeld ?_
      try simp only [Act.put, List.getElem_toArray, List.getElem_cons_zero, List.getElem_cons_succ, List.setIfInBounds_toArray, List.set_cons_zero, List.set_cons_succ]
      refine wpAnyH_take (i := 10) (v := undef) rfl (by kernel_rfl) (by kernel_rfl) (by kernel_rfl) (fun _ _ _ h => h) (Or.inr ⟨by rfl, rfl⟩) hHeld ?_
      try simp only [Act.put, List.getElem_toArray, List.getElem_cons_zero, List.getElem_cons_succ, List.setIfInBounds_toArray, List.set_cons_zero, List.set_cons_succ]
      refine wpAnyH_take (i := 11) (v := undef) rfl (by kernel_rfl) (by kernel_rfl) (by kernel_rfl) (fun _ _ _ h => h) (Or.inr ⟨by rfl, rfl⟩) hHeld ?_
      try simp only [Act.put, List.getElem_toArray, List.getElem_cons_zero, List.getElem_cons_succ, List.setIfInBounds_toArray, List.set_cons_zero, List.set_cons_succ]
      refine wpAnyH_take (i := 12) (v := undef) rfl (by kernel_rfl) (by kernel_rfl) (by kernel_rfl) (fun _ _ _ h => h) (Or.inr ⟨by rfl, rfl⟩) hHeld ?_
      try simp only [Act.put, List.getElem_toArray, List.getElem_cons_zero, List.getElem_cons_succ, List.setIfInBounds_toArray, List.set_cons_zero, List.set_cons_succ]
      refine wpAnyH_take (i := 13) (v := undef) rfl (by kernel_rfl) (by kernel_rfl) (by kernel_rfl) (fun _ _ _ h => h) (Or.inr ⟨by rfl, rfl⟩) hHeld ?_
      try simp only [Act.put, List.getElem_toArray, List.getElem_cons_zero, List.getElem_cons_succ, List.setIfInBounds_toArray, List.set_cons_zero, List.set_cons_succ]
      refine wpAnyH_take (i := 14) (v := undef) rfl (by kernel_rfl) (by kernel_rfl) (by kernel_rfl) (fun _ _ _ h => h) (Or.inr ⟨by rfl, rfl⟩) hHeld ?_
      try simp only [Act.put, List.getElem_toArray, List.getElem_cons_zero, List.getElem_cons_succ, List.setIfInBounds_toArray, List.set_cons_zero, List.set_cons_succ]
      refine wpAnyH_take (i := 15) (v := undef) rfl (by kernel_rfl) (by kernel_rfl) (by kernel_rfl) (fun _ _ _ h => h) (Or.inr ⟨by rfl, rfl⟩) hHeld ?_
      try simp only [Act.put, List.getElem_toArray, List.getElem_cons_zero, List.getElem_cons_succ, List.setIfInBounds_toArray, List.set_cons_zero, List.set_cons_succ]
      refine wpAnyH_take (i := 16) (v := undef) rfl (by kernel_rfl) (by kernel_rfl) (by kernel_rfl) (fun _ _ _ h => h) (Or.inr ⟨by rfl, rfl⟩) hHeld ?_
      try simp only [Act.put, List.getElem_toArray, List.getElem_cons_zero, List.getElem_cons_succ, List.setIfInBounds_toArray, List.set_cons_zero, List.set_cons_succ]
      refine wpAnyH_take (i := 17) (v := undef) rfl (by kernel_rfl) (by kernel_rfl) (by kernel_rfl) (fun _ _ _ h => h) (Or.inr ⟨by rfl, rfl⟩) hHeld ?_
      try simp only [Act.put, List.getElem_toArray, List.getElem_cons_zero, List.getElem_cons_succ, List.setIfInBounds_toArray, List.set_cons_zero, List.set_cons_succ]
      refine wpAnyH_take (i := 18) (v := undef) rfl (by kernel_rfl) (by kernel_rfl) (by kernel_rfl) (fun _ _ _ h => h) (Or.inr ⟨by rfl, rfl⟩) hHeld ?_
      try simp only [Act.put, List.getElem_toArray, List.getElem_cons_zero, List.getElem_cons_succ, List.setIfInBounds_toArray, List.set_cons_zero, List.set_cons_succ]
      refine wpAnyH_take (i := 19) (v := undef) rfl (by kernel_rfl) (by kernel_rfl) (by kernel_rfl) (fun _ _ _ h => h) (Or.inr ⟨by rfl, rfl⟩) hHeld ?_
      try simp only [Act.put, List.getElem_toArray, List.getElem_cons_zero, List.getElem_cons_succ, List.setIfInBounds_toArray, List.set_cons_zero, List.set_cons_succ]
      refine wpAnyH_take (i := 20) (v := .bool true) rfl (by kernel_rfl) (by kernel_rfl) (by kernel_rfl) (fun _ _ _ h => h) (Or.inl ⟨by rfl, fun w hS => by first | (go_simp; done) | (go_simp; with_reducible rfl)⟩) hHeld ?_
      try simp only [Act.put, List.getElem_toArray, List.getElem_cons_zero, List.getElem_cons_succ, List.setIfInBounds_toArray, List.set_cons_zero, List.set_cons_succ]
      refine wpAnyH_done (by kernel_rfl) ?_ _
      go_wp2_with fail
      go_ret
      exact ⟨rfl, HB3.out⟩
    · have HLT := Lib.hid (HLEN.out (by omega) (by omega))
      refine wpAnyH_take (i := 0) (v := .slice A na ca) rfl (by kernel_rfl) (by kernel_rfl) (by kernel_rfl) (fun _ _ _ h => h) (Or.inl ⟨by rfl, fun w hS => by first | (go_simp; done) | (go_simp; with_reducible rfl)⟩) hHeld ?_
      try simp only [Act.put, List.getElem_toArray, List.getElem_cons_zero, List.setIfInBounds_toArray, List.set_cons_zero, List.set_cons_succ]
      refine wpAnyH_take (i := 1) (v := .int .i64 na) rfl (by kernel_rfl) (by kernel_rfl) (by kernel_rfl) (fun _ _ _ h => h) (Or.inl ⟨by rfl, fun w hS => by first | (go_simp; done) | (go_simp; with_reducible rfl)⟩) hHeld ?_
      try simp only [Act.put, List.getElem_toArray, List.getElem_cons_zero, List.getElem_cons_succ, List.setIfInBounds_toArray, List.set_cons_zero, List.set_cons_succ]
      refine wpAnyH_take (i := 2) (v := .bool false) rfl (by kernel_rfl) (by kernel_rfl) (by kernel_rfl) (fun _ _ _ h => h) (Or.inl ⟨by rfl, fun w hS => by first | (go_simp; done) | (go_simp; with_reducible rfl)⟩) hHeld ?_
      try simp only [Act.put, List.getElem_toArray, List.getElem_cons_zero, List.getElem_cons_succ, List.setIfInBounds_toArray, List.set_cons_zero, List.set_cons_succ]
      refine wpAnyH_take (i := 3) (v := .bool false) rfl (by kernel_rfl) (by kernel_rfl) (by kernel_rfl) (fun _ _ _ h => h) (Or.inl ⟨by rfl, fun w hS => by first | (go_simp; done) | (go_simp; with_reducible rfl)⟩) hHeld ?_
      try simp only [Act.put, List.getElem_toArray, List.getElem_cons_zero, List.getElem_cons_succ, List.setIfInBounds_toArray, List.set_cons_zero, List.set_cons_succ]
      refine wpAnyH_take (i := 4) (v := .slice A' nb cb) rfl (by kernel_rfl) (by kernel_rfl) (by kernel_rfl) (fun _ _ _ h => h) (Or.inl ⟨by rfl, fun w hS => by first | (go_simp; done) | (go_simp; with_reducible rfl)⟩) hHeld ?_
      try simp only [Act.put, List.getElem_toArray, List.getElem_cons_zero, List.getElem_cons_succ, List.setIfInBounds_toArray, List.set_cons_zero, List.set_cons_succ]
      refine wpAnyH_take (i := 5) (v := .int .i64 nb) rfl (by kernel_rfl) (by kernel_rfl) (by kernel_rfl) (fun _ _ _ h => h) (Or.inl ⟨by rfl, fun w hS => by first | (go_simp; done) | (go_simp; with_reducible rfl)⟩) hHeld ?_
      try simp only [Act.put, List.getElem_toArray, List.getElem_cons_zero, List.getElem_cons_succ, List.setIfInBounds_toArray, List.set_cons_zero, List.set_cons_succ]
      refine wpAnyH_take (i := 6) (v := .bool false) rfl (by kernel_rfl) (by kernel_rfl) (by kernel_rfl) (fun _ _ _ h => h) (Or.inl ⟨by rfl, fun w hS => by first | (go_simp; done) | (go_simp; with_reducible rfl)⟩) hHeld ?_
      try simp only [Act.put, List.getElem_toArray, List.getElem_cons_zero, List.getElem_cons_succ, List.setIfInBounds_toArray, List.set_cons_zero, List.set_cons_succ]
      refine wpAnyH_take (i := 7) (v := .bool false) rfl (by kernel_rfl) (by kernel_rfl) (by kernel_rfl) (fun _ _ _ h => h) (Or.inl ⟨by rfl, fun w hS => by first | (go_simp; done) | (go_simp; with_reducible rfl)⟩) hHeld ?_
      try simp only [Act.put, List.getElem_toArray, List.getElem_cons_zero, List.getElem_cons_succ, List.setIfInBounds_toArray, List.set_cons_zero, List.set_cons_succ]
      refine wpAnyH_take (i := 8) (v := .bool false) rfl (by kernel_rfl) (by kernel_rfl) (by kernel_rfl) (fun _ _ _ h => h) (Or.inl ⟨by rfl, fun w hS => by first | (go_simp; done) | (go_simp; with_reducible rfl)⟩) hHeld ?_
      try simp only [Act.put, List.getElem_toArray, List.getElem_cons_zero, List.getElem_cons_succ, List.setIfInBounds_toArray, List.set_cons_zero, List.set_cons_succ]
      refine wpAnyH_take (i := 9) (v := .slice A na ca) rfl (by kernel_rfl) (by kernel_rfl) (by kernel_rfl) (fun _ _ _ h => h) (Or.inl ⟨by rfl, fun w hS => by first | (go_simp; done) | (go_simp; with_reducible rfl)⟩) hHeld ?_
      try simp only [Act.put, List.getElem_toArray, List.getElem_cons_zero, List.getElem_cons_succ, List.setIfInBounds_toArray, List.set_cons_zero, List.set_cons_succ]
      refine wpAnyH_take (i := 10) (v := .slice A' nb cb) rfl (by kernel_rfl) (by kernel_rfl) (by kernel_rfl) (fun _ _ _ h => h) (Or.inl ⟨by rfl, fun w hS => by first | (go_simp; done) | (go_simp; with_reducible rfl)⟩) hHeld ?_
      try simp only [Act.put, List.getElem_toArray, List.getElem_cons_zero, List.getElem_cons_succ, List.setIfInBounds_toArray, List.set_cons_zero, List.set_cons_succ]
      refine wpAnyH_take (i := 14) (v := .slice A na ca) rfl (by kernel_rfl) (by kernel_rfl) (by kernel_rfl) (fun _ _ _ h => h) (Or.inl ⟨by rfl, fun w hS => by first | (go_simp; done) | (go_simp; with_reducible rfl)⟩) hHeld ?_
      try simp only [Act.put, List.getElem_toArray, List.getElem_cons_zero, List.getElem_cons_succ, List.setIfInBounds_toArray, List.set_cons_zero, List.set_cons_succ]
      refine wpAnyH_take (i := 15) (v := .slice A' nb cb) rfl (by kernel_rfl) (by kernel_rfl) (by kernel_rfl) (fun _ _ _ h => h) (Or.inl ⟨by rfl, fun w hS => by first | (go_simp; done) | (go_simp; with_reducible rfl)⟩) hHeld ?_
      try simp only [Act.put, List.getElem_toArray, List.getElem_cons_zero, List.getElem_cons_succ, List.setIfInBounds_toArray, List.set_cons_zero, List.set_cons_succ]
      refine wpAnyH_joinD [11, 12, 13, 16, 17, 18] [24, 25, 26, 29, 30, 31] (fun k => if k = 1 then [0] else if k = 2 then [1] else if k = 4 then [3] else if k = 5 then [4] else []) _ _ _ (PhP [a, b]) 2 rfl (by kernel_rfl) (by decide) (by decide) rfl hHeld ?_ ?_
      · intro k i s xs X hk hs hx hS hdep
        obtain ⟨x1, x2, x3, x4, x5, x6, rfl⟩ : ∃ x1 x2 x3 x4 x5 x6, xs = [x1, x2, x3, x4, x5, x6] := by
          match xs, hx with
          | [a, b, c, d, e, f], _ => exact ⟨a, b, c, d, e, f, rfl⟩
        clear hx
        match k, hk, hs, hdep with
        | 0, hk, hs, hdep =>
          obtain rfl : 11 = i := by simpa using hk
          obtain rfl : 24 = s := by simpa using hs
          have HB := Lib.hid hS
          have HRW := Lib.hid (rws_two (HSA.out X hS) (HSB.out X hS))
          have HBA : Hid (Below X.heap.size X (X.alloc (.cells #[.slice A na ca, .slice A' nb cb] 22))) := Lib.hid ((Below.refl _ _).alloc (Nat.le_refl _) _)
          clear hS hdep
          refine wpOp_step rfl (fun K hK => ?_)
          replace hK : Shut _ := hK
          simp only [setT, List.setIfInBounds_toArray, List.set_cons_succ, List.set_cons_zero]
          go_simp
          refine hK.out _ _ ⟨?v0, ?e0, ?p0, ?s0, ?k0⟩
          case e0 => simp only [setT, List.setIfInBounds_toArray, List.set_cons_succ, List.set_cons_zero] <;> rfl
          case p0 => exact ⟨X.heap.size, rfl, HRW.out.more (by simp)⟩
          case s0 => exact HB.out.trans (HBA.out.mono HB.out.size)
          case k0 => exact fun j x hj => hj.below HBA.out
        | 1, hk, hs, hdep =>
          obtain rfl : 12 = i := by simpa using hk
          obtain rfl : 25 = s := by simpa using hs
          have HB := Lib.hid hS
          have hd := hdep 0 (by simp) x1 rfl
          obtain ⟨g, rfl, hrw⟩ := hd
          have HC := Lib.hid (put_any hrw 2 2 rfl HLT.out (HG.out X hS).1)
          clear hS hdep hrw
          refine wpOp_step rfl (fun K hK => ?_)
          replace hK : Shut _ := hK
          simp only [setT, List.setIfInBounds_toArray, List.set_cons_succ, List.set_cons_zero]
          go_simp
          go_wp2_with (first
            | (go_at_call 8; refine HC.out.mono ?_; rintro e Y ⟨vx, rfl, hox, hbx⟩; have HOX := Lib.hid hox; have HBX := Lib.hid hbx; clear hox hbx)
            | fail)
          refine hK.out _ _ ⟨?v1, ?e1, ?p1, ?s1, ?k1⟩
          case e1 => simp only [setT, List.setIfInBounds_toArray, List.set_cons_succ, List.set_cons_zero] <;> rfl
          case p1 =>
            have ho := HOX.out
            obtain ⟨Ax, cx, rfl, h4, h5⟩ := own_slice ho
            exact ⟨Ax, cx, rfl, ho.bts, h4, h5⟩
          case s1 => exact HB.out.trans (HBX.out.mono HB.out.size)
          case k1 => exact fun j x hj => hj.below HBX.out
        | 2, hk, hs, hdep =>
          obtain rfl : 13 = i := by simpa using hk
          obtain rfl : 26 = s := by simpa using hs
          have HB := Lib.hid hS
          have hd := hdep 1 (by simp) x2 rfl
          obtain ⟨Ax, cx, rfl, hbt, _, _⟩ := hd
          have hcs := conv_str hbt cx
          clear hS hdep hbt
          refine wpOp_step rfl (fun K hK => ?_)
          replace hK : Shut _ := hK
          simp only [setT, List.setIfInBounds_toArray, List.set_cons_succ, List.set_cons_zero]
          go_simp
          refine hK.out _ _ ⟨?v2, ?e2, ?p2, ?s2, ?k2⟩
          case e2 => simp only [setT, List.setIfInBounds_toArray, List.set_cons_succ, List.set_cons_zero] <;> rfl
          case p2 => exact rfl
          case s2 => exact HB.out
          case k2 => exact fun j x hj => hj
        | 3, hk, hs, hdep =>
          obtain rfl : 16 = i := by simpa using hk
          obtain rfl : 29 = s := by simpa using hs
          have HB := Lib.hid hS
          have HRW := Lib.hid (rws_two (HSA.out X hS) (HSB.out X hS))
          have HBA : Hid (Below X.heap.size X (X.alloc (.cells #[.slice A na ca, .slice A' nb cb] 22))) := Lib.hid ((Below.refl _ _).alloc (Nat.le_refl _) _)
          clear hS hdep
          refine wpOp_step rfl (fun K hK => ?_)
          replace hK : Shut _ := hK
          simp only [setT, List.setIfInBounds_toArray, List.set_cons_succ, List.set_cons_zero]
          go_simp
          refine hK.out _ _ ⟨?v3, ?e3, ?p3, ?s3, ?k3⟩
          case e3 => simp only [setT, List.setIfInBounds_toArray, List.set_cons_succ, List.set_cons_zero] <;> rfl
          case p3 => exact ⟨X.heap.size, rfl, HRW.out.more (by simp)⟩
          case s3 => exact HB.out.trans (HBA.out.mono HB.out.size)
          case k3 => exact fun j x hj => hj.below HBA.out
        | 4, hk, hs, hdep =>
          obtain rfl : 17 = i := by simpa using hk
          obtain rfl : 30 = s := by simpa using hs
          have HB := Lib.hid hS
          have hd := hdep 3 (by simp) x4 rfl
          obtain ⟨g, rfl, hrw⟩ := hd
          have HC := Lib.hid (rput_any hrw 2 2 rfl HLT.out (HG.out X hS).1)
          clear hS hdep hrw
          refine wpOp_step rfl (fun K hK => ?_)
          replace hK : Shut _ := hK
          simp only [setT, List.setIfInBounds_toArray, List.set_cons_succ, List.set_cons_zero]
          go_simp
          go_wp2_with (first
            | (go_at_call 9; refine HC.out.mono ?_; rintro e Y ⟨vx, rfl, hox, hbx⟩; have HOX := Lib.hid hox; have HBX := Lib.hid hbx; clear hox hbx)
            | fail)
          refine hK.out _ _ ⟨?v4, ?e4, ?p4, ?s4, ?k4⟩
          case e4 => simp only [setT, List.setIfInBounds_toArray, List.set_cons_succ, List.set_cons_zero] <;> rfl
          case p4 =>
            have ho := HOX.out
            obtain ⟨Ax, cx, rfl, h4, h5⟩ := own_slice ho
            exact ⟨Ax, cx, rfl, ho.bts, h4, h5⟩
          case s4 => exact HB.out.trans (HBX.out.mono HB.out.size)
          case k4 => exact fun j x hj => hj.below HBX.out
        | 5, hk, hs, hdep =>
          obtain rfl : 18 = i := by simpa using hk
          obtain rfl : 31 = s := by simpa using hs
          have HB := Lib.hid hS
          have hd := hdep 4 (by simp) x5 rfl
          obtain ⟨Ax, cx, rfl, hbt, _, _⟩ := hd
          have hcs := conv_str hbt cx
          clear hS hdep hbt
          refine wpOp_step rfl (fun K hK => ?_)
          replace hK : Shut _ := hK
          simp only [setT, List.setIfInBounds_toArray, List.set_cons_succ, List.set_cons_zero]
          go_simp
          refine hK.out _ _ ⟨?v5, ?e5, ?p5, ?s5, ?k5⟩
          case e5 => simp only [setT, List.setIfInBounds_toArray, List.set_cons_succ, List.set_cons_zero] <;> rfl
          case p5 => exact rfl
          case s5 => exact HB.out
          case k5 => exact fun j x hj => hj
        | k + 6, hk, hs, hdep => simp at hk
      intro xs X hx hφ hS
      obtain ⟨x1, x2, x3, x4, x5, x6, rfl⟩ : ∃ x1 x2 x3 x4 x5 x6, xs = [x1, x2, x3, x4, x5, x6] := by
        match xs, hx with
        | [a, b, c, d, e, f], _ => exact ⟨a, b, c, d, e, f, rfl⟩
      obtain rfl : x3 = .string (str (putS [a, b])) := hφ 2 x3 rfl
      obtain rfl : x6 = .string (str (putS [a, b])) := hφ 5 x6 rfl
      have HB6 := Lib.hid hS
      have hHeld := hS
      clear hφ hx hS HSA HSB HLT HLEN HB3
      generalize str (putS [a, b]) = sp at *
      simp only [setT, List.setIfInBounds_toArray, List.set_cons_succ, List.set_cons_zero]
      refine wpAnyH_take (i := 19) (v := .bool false) rfl (by kernel_rfl) (by kernel_rfl) (by kernel_rfl) (fun _ _ _ h => h) (Or.inl ⟨by rfl, fun w hS => by (go_simp; first | done | simp)⟩) hHeld ?_
      try simp only [Act.put, List.getElem_toArray, List.getElem_cons_zero, List.getElem_cons_succ, List.setIfInBounds_toArray, List.set_cons_zero, List.set_cons_succ]
      refine wpAnyH_take (i := 20) (v := .bool false) rfl (by kernel_rfl) (by kernel_rfl) (by kernel_rfl) (fun _ _ _ h => h) (Or.inl ⟨by rfl, fun w hS => by first | (go_simp; done) | (go_simp; with_reducible rfl)⟩) hHeld ?_
      try simp only [Act.put, List.getElem_toArray, List.getElem_cons_zero, List.getElem_cons_succ, List.setIfInBounds_toArray, List.set_cons_zero, List.set_cons_succ]
      refine wpAnyH_done (by kernel_rfl) ?_ _
      have HT1 := Lib.hid (HTK.out X HB6.out (by omega))
      go_wp2_with fail
      refine HT1.out.mono ?_
      rintro e w7 ⟨hb7, htk⟩
      have HB7 := Lib.hid (HB6.out.trans (hb7.mono HB6.out.size))
      have HT2 := Lib.hid (HRT.out w7 HB7.out (by omega))
      have HX7 := Lib.hid htk
      clear hb7 htk HT1 HTK HRT
      rcases HX7.out with ⟨hn, v, rfl, ho⟩ | ⟨p, r, hn, v1, v2, rfl, ho1, ho2⟩
      · have HO := Lib.hid ho
        clear ho HX7
        go_wp2_with fail
        refine HT2.out.mono ?_
        rintro e w8 ⟨hb8, ⟨hn2, rfl⟩ | ⟨p, r, hn2, _⟩⟩
        · have HB8 := Lib.hid (HB7.out.trans (hb8.mono HB7.out.size))
          have ho8 := own_kept HO.out hb8 (Nat.le_refl _)
          obtain ⟨Av, cv, rfl, _, _⟩ := own_slice ho8
          have hc1 := conv_str (Own5.bts ho8) cv
          have hc2 := HCB.out w8 HB8.out
          have hc0 : (convert 22 9 (.slice none 0 0)).run Tryd.prog w8 = .ok (.string (str [])) w8 := conv_str (w := w8) (B := 0) (A := none) (l := []) Cs.nil 0
          rw [HNL.out.2] at hc1
          rw [HNL.out.2]
          clear ho8 hb8 HO HT2
          generalize str [] = s0 at *
          generalize str b = sb at *
          go_wp2_with fail
          go_ret
          exact ⟨by simp, HB8.out⟩
        · rw [hn] at hn2; cases hn2
      · have HO := Lib.hid (And.intro ho1 ho2)
        clear ho1 ho2 HX7
        go_wp2_with fail
        refine HT2.out.mono ?_
        rintro e w8 ⟨hb8, ⟨hn2, rfl⟩ | ⟨p', r', hn2, v', A2, c2, rfl, ho', hbr, _, _, _⟩⟩
        · rw [hn] at hn2; cases hn2
        · rw [hn] at hn2
          injection hn2 with hn2
          injection hn2 with e1 e2
          subst e1; subst e2
          have HB8 := Lib.hid (HB7.out.trans (hb8.mono HB7.out.size))
          have ho1 := own_kept HO.out.1 hb8 (Nat.le_refl _)
          have ho2 := own_kept HO.out.2 hb8 (Nat.le_refl _)
          obtain ⟨Av, cv, rfl, _, _⟩ := own_slice ho1
          obtain ⟨Aw, cw, rfl, _, _⟩ := own_slice ho2
          obtain ⟨Ax, cx, rfl, _, _⟩ := own_slice ho'
          have hc1 := conv_str (Own5.bts ho1) cv
          have hc2 := conv_str (Own5.bts ho2) cw
          have hc3 := conv_str (Own5.bts ho') cx
          have hc4 := conv_str (hbr.below hb8) c2
          clear ho1 ho2 ho' hbr hb8 HO HT2
          generalize p.length = np at *
          generalize r.length = nr at *
          generalize str p = sp1 at *
          generalize str r = sr1 at *
          go_wp2_with fail
          go_ret
          exact ⟨by simp, HB8.out⟩
end En
end Go.Proofs.YtpfonpjcnpfipaaDoor
