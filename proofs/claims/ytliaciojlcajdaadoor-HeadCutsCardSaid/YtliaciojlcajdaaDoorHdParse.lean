/- head.Parse. Conditions: as stated at each. -/
import Derived.Test.YtliaciojlcajdaaDoorHdTold
namespace Go.Proofs.YtliaciojlcajdaaDoor
set_option maxRecDepth 100000
namespace Hd
open Go.RowKit Go Go.Proofs.YtliaciojlcajdaaDoor.Pa
/-- what is behind the reading: the reader's fields; or the error. -/
def Qr (w : World) (N R : Nat) (bl : Nat) (res : Option (List F × List UInt8)) (x : Int) (X : World) : Prop :=
  (x = 0 ∧ ∃ fs r k, res = some (fs, r) ∧ k + r.length = bl ∧ Rd X N R fs (k : Nat) ∧ Below N w X) ∨ (x = 80 ∧ res = none ∧ Below N w X)
/-- what Parse answers. -/
def ParseP (w : World) (bl : Nat) (res : Option (List F × List UInt8)) (e : Ending) (w' : World) : Prop :=
  (∃ fs r k v, res = some (fs, r) ∧ k + r.length = bl ∧ e = .returned (.tuple #[v, .int .i64 (k : Nat), .int .i64 0]) ∧ OwnA w' w.heap.size v (fs.map trimF) ∧ Below w.heap.size w w') ∨
  (res = none ∧ e = .returned (.tuple #[.slice none 0 0, .int .i64 0, .int .i64 80]) ∧ Below w.heap.size w w')
theorem bad_eq {x : Int} {ch : List PanicEntry} (h : Ending.panicked ch = bad x) : ch = [{ v := .iface 25 (.int .i64 x), recovered := false }] := by
  unfold bad at h
  injection h
set_option maxHeartbeats 1600000 in
theorem parse1_any {W : World} {N R E V : Nat} (h : Rd W N R [] 0) (hNw : N ≤ W.heap.size) (hN0 : 0 < N) {A : Option Addr} {b : List UInt8} (hb : Bts W N A b) (c : Nat) (hc : b.length ≤ c) (hm : c ≤ maxLen) (hA : A = none → c = 0) (hl : b.length ≤ 1000000) (hG : Gl W)
    (res : Option (List F × List UInt8)) (hrun : Run [] b res) (hres : ∀ gs r, res = some (gs, r) → gs.length ≤ 1000 ∧ b.length - r.length ≤ 100000)
    (hE : BlkIs W E 25 #[.int .i64 0]) (hV : BlkIs W V 22 #[.slice A b.length c]) (hEN : N ≤ E) :
    Calls Tryd.prog 22 #[.pointer (some ⟨R, 0, none⟩), .pointer (some ⟨V, 0, none⟩)] W fun e w' => BlkIs w' E 25 #[.int .i64 0] ∧ ((e = .returned (.tuple #[]) ∧ Qr W N R b.length res 0 w') ∨ ∃ x, e = bad x ∧ Qr W N R b.length res x (w'.setCell ⟨E, 0, none⟩ (.int .i64 x))) := by
  have HR := Lib.hid (callsIn_wide.1 (read_in h hNw hN0 hb c hc hm hA hl hG res hrun hres))
  have HE := Lib.hid hE
  have x1 := (hV.cell 0).trans (rfl : _ = some (Value.slice A b.length c))
  clear h hb hG hE hV hl hc
  generalize b.length = bn at *
  go_enter Tryd.func22, Tryd.ntmps22
  go_wp2_with fail
  refine HR.out.mono ?_
  rintro e w' (⟨rfl, fs, r, k, h1, h2, h3, h4, h5⟩ | ⟨rfl, h1, h2, h3⟩)
  · have hE' : BlkIs w' E 25 #[.int .i64 0] := h5 _ _ HE.out (fun cs t fr e => by injection e with _ e _; subst e; decide)
    have HF : Hid (Qr W N R bn res 0 w') := Lib.hid (.inl ⟨rfl, fs, r, k, h1, h2, h3, h4⟩)
    clear h1 h2 h3 h4 h5
    go_wp2_with fail
    go_end0
    exact ⟨hE', .inl ⟨rfl, HF.out⟩⟩
  · have hE' : BlkIs w' E 25 #[.int .i64 0] := h3 _ _ HE.out (fun cs t fr e => by injection e with _ e _; subst e; decide)
    have hb4 : Below N W (w'.setCell ⟨E, 0, none⟩ (.int .i64 80)) := h2.setCell hEN _
    unfold bad
    exact ⟨rfl, hE', .inr ⟨80, rfl, .inr ⟨rfl, h1, hb4⟩⟩⟩
set_option maxHeartbeats 1600000 in
theorem parse_any {w : World} {A : Option Addr} {b : List UInt8} (hb : Bts w w.heap.size A b) (c : Nat) (hc : b.length ≤ c) (hm : c ≤ maxLen) (hA : A = none → c = 0) (hl : b.length ≤ 1000000) (hG : Gl w)
    (res : Option (List F × List UInt8)) (hrun : Run [] b res) (hres : ∀ gs r, res = some (gs, r) → gs.length ≤ 1000 ∧ b.length - r.length ≤ 100000) (hfl : ∀ gs r, res = some (gs, r) → ∀ f ∈ gs, f.2.length ≤ 1000000) :
    Calls Tryd.prog 9 #[.slice A b.length c] w (ParseP w b.length res) := by
  have kB : Below w.heap.size w ((w.alloc (.cells #[.slice A b.length c] 22)).alloc (.cells #[.slice none 0 0, .int .i64 0] 50)) := ((Below.refl _ w).alloc (Nat.le_refl _) _).alloc (by simp) _
  have k1 : BlkIs ((w.alloc (.cells #[.slice A b.length c] 22)).alloc (.cells #[.slice none 0 0, .int .i64 0] 50)) w.heap.size 22 #[.slice A b.length c] := (BlkIs.new w 22 #[.slice A b.length c]).alloc _
  have k2 : BlkIs ((w.alloc (.cells #[.slice A b.length c] 22)).alloc (.cells #[.slice none 0 0, .int .i64 0] 50)) (w.heap.size + 1) 50 #[.slice none 0 0, .int .i64 0] := by
    have := BlkIs.new (w.alloc (.cells #[.slice A b.length c] 22)) 50 #[.slice none 0 0, .int .i64 0]
    rwa [World.size_alloc] at this
  have kz : ((w.alloc (.cells #[.slice A b.length c] 22)).alloc (.cells #[.slice none 0 0, .int .i64 0] 50)).heap.size = w.heap.size + 2 := by simp
  have HAT : Hid (∀ w2, Below w.heap.size w w2 → BlkIs w2 w.heap.size 22 #[.slice A b.length c] → BlkIs w2 (w.heap.size + 1) 50 #[.slice none 0 0, .int .i64 0] → w2.heap.size = w.heap.size + 2 →
      Calls Tryd.prog 21 #[.func (.func 22) #[] #[.pointer (some ⟨w.heap.size + 1, 0, none⟩), .pointer (some ⟨w.heap.size, 0, none⟩)]] w2 fun e w' => ∃ x, e = .returned (.int .i64 x) ∧ Qr (w2.alloc (.cells #[.int .i64 0] 25)) w.heap.size (w.heap.size + 1) b.length res x w') := Lib.hid fun w2 g1 g2 g3 g4 => by
    refine Fa.attempt_c 22 _ w2 _ (enters_of Tryd.func22 (by kernel_rfl) rfl _) ?_
    have ga : Below w2.heap.size w2 (w2.alloc (.cells #[.int .i64 0] 25)) := belowA w2 _
    have gb := g1.trans (ga.mono (by omega))
    have hRd : Rd (w2.alloc (.cells #[.int .i64 0] 25)) w.heap.size (w.heap.size + 1) [] 0 :=
      ⟨.slice none 0 0, [], w.heap.size, g3.alloc _, by omega, rfl, World.ownsRow_nil _ _ _ _, Nat.le_refl _, by simp; omega, by simp, (fun k g h1 h2 => by simp at h2), by simp⟩
    have h0 := hG.lt
    refine parse1_any hRd (by simp; omega) h0 (hb.below gb) c hc hm hA hl (hG.below gb h0) res hrun hres (BlkIs.new w2 _ _) (g2.alloc _) (by omega)
  have HFL := Lib.hid hfl
  have HKB := Lib.hid (And.intro kB (And.intro k1 (And.intro k2 kz)))
  have HRS := Lib.hid hres
  clear hb hc hm hA hl hG hrun hres hfl kB k1 k2 kz
  generalize b.length = bn at *
  go_enter Tryd.func9, Tryd.ntmps9
  go_wp2_with fail
  refine (HAT.out _ HKB.out.1 HKB.out.2.1 HKB.out.2.2.1 HKB.out.2.2.2).mono ?_
  rintro e w3 ⟨x, rfl, hq⟩
  have HB3 : Hid (∀ X, Below w.heap.size (((w.alloc (.cells #[.slice A bn c] 22)).alloc (.cells #[.slice none 0 0, .int .i64 0] 50)).alloc (.cells #[.int .i64 0] 25)) X → Below w.heap.size w X) := Lib.hid fun X h => (HKB.out.1.alloc (by simp; omega) _).trans h
  rcases hq with ⟨rfl, fs, r, k, h1, h2, h3, h4⟩ | ⟨rfl, h1, h2⟩
  · have hfl := HFL.out fs r h1
    have hfs : fs.length ≤ 1000000 := by
      have := (HRS.out fs r h1).1
      omega
    have HB4 := Lib.hid (HB3.out _ h4)
    have hsz : w.heap.size ≤ w3.heap.size := HB4.out.size
    obtain ⟨A9, c9, hR9, _⟩ := h3.len
    have y1 := (hR9.cell 1).trans (rfl : _ = some (Value.int .i64 (k : Nat)))
    have hd : Below w3.heap.size w3 w3.drew := (Below.refl _ _).drew
    have HTO := Lib.hid (told_any (h3.kc (KC.of_below hd)) hfs hfl)
    have HRK : Hid (∀ X, Below w3.heap.size w3 X → X.cell? ⟨w.heap.size + 1, 1, none⟩ = some (.int .i64 (k : Nat))) := Lib.hid fun X hb => (hb.cell (p := ⟨w.heap.size + 1, 1, none⟩) hR9.lt).trans y1
    have H12 := Lib.hid (And.intro h1 h2)
    have HD := Lib.hid hd
    clear hfl hfs h3 h4 hR9 h1 h2 hd HB3 HAT HKB
    go_wp2_with fail
    go_region_held3 (fun X => X.cell? ⟨w.heap.size + 1, 1, none⟩ = some (.int .i64 (k : Nat)))
      (first
        | exact HRK.out _ HD.out
        | exact HRK.out _ (HD.out.trans hbt))
      (first
        | (go_at_call 24; refine HTO.out.mono ?_; rintro e w5 ⟨v, rfl, hO5, hbt⟩))
    go_wp2_with fail
    refine bodyPost_ret (results_tmp3 rfl _ _ _) rfl ?_
    refine .inl ⟨fs, r, k, v, H12.out.1, H12.out.2, rfl, own_more2 hO5 hsz, HB4.out.trans ((HD.out.trans hbt).mono hsz)⟩
  · have HF := Lib.hid (And.intro h1 (HB3.out _ h2))
    clear h1 h2 HB3 HAT HKB
    go_wp2_with fail
    refine bodyPost_ret (results_tmp3 rfl _ _ _) rfl ?_
    exact .inr ⟨HF.out.1, rfl, HF.out.2⟩
end Hd
end Go.Proofs.YtliaciojlcajdaaDoor
