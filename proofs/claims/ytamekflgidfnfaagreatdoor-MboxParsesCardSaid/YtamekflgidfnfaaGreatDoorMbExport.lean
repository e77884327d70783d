/- mbox.Export. Conditions: as stated at each. -/
import Derived.Test.YtamekflgidfnfaaGreatDoorMbExp
import Derived.Test.YtamekflgidfnfaaGreatDoorFaCall
namespace Go.Proofs.YtamekflgidfnfaaGreatDoor
set_option maxRecDepth 100000
namespace Mb
open Go.RowKit Go Go.Proofs.YtamekflgidfnfaaGreatDoor.Pa
theorem own_far {w : World} {N n sz : Nat} {e : TypeId} {v : Value} {xs : List Value} (h : w.ownsRow N e sz v n xs) {x : Addr} (hx : ∀ g, v.ownBlock = some g → g ≠ x.block) (u : Value) : (w.setCell x u).ownsRow N e sz v n xs := by
  refine ⟨h.1, ?_⟩
  rcases h.2 with h0 | ⟨g, cap, cur, rfl, hn, hh, rest⟩
  · exact .inl h0
  · exact .inr ⟨g, cap, cur, rfl, hn, (Below.heap_setCell w x u g (hx g rfl)).trans hh, rest⟩
def Qs (w : World) (N R : Nat) (ls : List Lt) (x : Int) (X : World) : Prop :=
  Below N w X ∧ ((x = 0 ∧ ls.all okL = true ∧ ∃ v, BlkIs X R 22 #[v] ∧ Own5 X N v (fileS ls)) ∨
    (x = 100 ∧ ls.all okL = false ∧ BlkIs X R 22 #[.slice none 0 0]))
set_option maxHeartbeats 1600000 in
theorem export1_any {W : World} {N R E V : Nat} {A : Option Addr} {ls : List Lt} (h : Ls W W.heap.size A ls) (n c : Nat) (hn : ls.length = n) (hnb : n ≤ 1000000) (hsm : ∀ x ∈ ls, small x) (htot : (fileS ls).length ≤ 1000000) (hG : GlT W)
    (hNR : N ≤ R) (hNE : N ≤ E) (hRE : R ≠ E) (hE : BlkIs W E 25 #[.int .i64 0]) (hV : BlkIs W V 24 #[.slice A n c]) (hR : BlkIs W R 22 #[.slice none 0 0]) :
    Calls Tryz.prog 29 #[.pointer (some ⟨V, 0, none⟩), .pointer (some ⟨R, 0, none⟩)] W fun e w' => BlkIs w' E 25 #[.int .i64 0] ∧ ((e = .returned (.tuple #[]) ∧ Qs W N R ls 0 w') ∨ ∃ x, e = bad x ∧ Qs W N R ls x (w'.setCell ⟨E, 0, none⟩ (.int .i64 x))) := by
  have HS := Lib.hid (exported_any h n c hn hnb hsm htot hG)
  have HE := Lib.hid (And.intro hE (And.intro hR (And.intro hNR (And.intro hNE hRE))))
  have x1 := (hV.cell 0).trans (rfl : _ = some (Value.slice A n c))
  have hRlt : R < W.heap.size := hR.lt
  clear h hE hV hR hn hnb hsm hNR hNE hRE htot hG
  go_enter Tryz.func29, Tryz.ntmps29
  go_wp2_with fail
  refine HS.out.mono ?_
  rintro e w' ⟨hb, ⟨h1, v, rfl, h3⟩ | ⟨h1, rfl⟩⟩
  · obtain ⟨A6, c6, rfl, _, _⟩ := own_slice h3
    have hR' : BlkIs w' R 22 #[.slice none 0 0] := (hb.block _ hRlt).trans HE.out.2.1
    have hE' : BlkIs w' E 25 #[.int .i64 0] := (hb.block _ HE.out.1.lt).trans HE.out.1
    have y0 := (hR'.cell 0).trans (rfl : _ = some (Value.slice none 0 0))
    have yf := hR'.froz 0
    have hNW : N ≤ W.heap.size := by have := HE.out.2.2.1; omega
    have hO : Own5 (w'.setCell ⟨R, 0, none⟩ (.slice A6 (fileS ls).length c6)) N (.slice A6 (fileS ls).length c6) (fileS ls) := own_more (own_far h3 (fun g hg => by have := (h3.lt g hg).1; show g ≠ R; omega) _) hNW
    have HF : Hid (BlkIs (w'.setCell ⟨R, 0, none⟩ (.slice A6 (fileS ls).length c6)) E 25 #[.int .i64 0] ∧ Qs W N R ls 0 (w'.setCell ⟨R, 0, none⟩ (.slice A6 (fileS ls).length c6))) :=
      Lib.hid ⟨hE'.far (fun e => HE.out.2.2.2.2 e.symm) _, (hb.mono hNW).setCell HE.out.2.2.1 _, .inl ⟨rfl, h1, _, hR'.put 0 _, hO⟩⟩
    clear hb h1 h3 hO hR' hE'
    generalize (fileS ls).length = m9 at *
    go_wp2_with fail
    go_end0
    exact ⟨HF.out.1, .inl ⟨rfl, HF.out.2⟩⟩
  · have hR' : BlkIs w' R 22 #[.slice none 0 0] := (hb.block _ hRlt).trans HE.out.2.1
    have hE' : BlkIs w' E 25 #[.int .i64 0] := (hb.block _ HE.out.1.lt).trans HE.out.1
    have hNW : N ≤ W.heap.size := by have := HE.out.2.2.1; omega
    have hq : Qs W N R ls 100 (w'.setCell ⟨E, 0, none⟩ (.int .i64 100)) := ⟨(hb.mono hNW).setCell HE.out.2.2.2.1 _, .inr ⟨rfl, h1, hR'.far (fun e => HE.out.2.2.2.2 e) _⟩⟩
    unfold bad
    exact ⟨rfl, hE', .inr ⟨100, rfl, hq⟩⟩
/-- what Export answers. -/
def ExportP (w : World) (ls : List Lt) (e : Ending) (w' : World) : Prop :=
  Below w.heap.size w w' ∧ ((ls.all okL = true ∧ ∃ v, e = .returned (.tuple #[v, .int .i64 0]) ∧ Own5 w' w.heap.size v (fileS ls)) ∨ (ls.all okL = false ∧ e = .returned (.tuple #[.slice none 0 0, .int .i64 100])))
set_option maxHeartbeats 1600000 in
theorem export_any {w : World} {A : Option Addr} {ls : List Lt} (h : Ls w w.heap.size A ls) (n c : Nat) (hn : ls.length = n) (hnb : n ≤ 1000000) (hsm : ∀ x ∈ ls, small x) (htot : (fileS ls).length ≤ 1000000) (hG : GlT w) :
    Calls Tryz.prog 13 #[.slice A n c] w (ExportP w ls) := by
  have kB : Below w.heap.size w ((w.alloc (.cells #[.slice A n c] 24)).alloc (.cells #[.slice none 0 0] 22)) := ((Below.refl _ w).alloc (Nat.le_refl _) _).alloc (by simp) _
  have k1 : BlkIs ((w.alloc (.cells #[.slice A n c] 24)).alloc (.cells #[.slice none 0 0] 22)) w.heap.size 24 #[.slice A n c] := (BlkIs.new w 24 #[.slice A n c]).alloc _
  have k2 : BlkIs ((w.alloc (.cells #[.slice A n c] 24)).alloc (.cells #[.slice none 0 0] 22)) (w.heap.size + 1) 22 #[.slice none 0 0] := by
    have := BlkIs.new (w.alloc (.cells #[.slice A n c] 24)) 22 #[.slice none 0 0]
    rwa [World.size_alloc] at this
  have kz : ((w.alloc (.cells #[.slice A n c] 24)).alloc (.cells #[.slice none 0 0] 22)).heap.size = w.heap.size + 2 := by simp
  have HAT : Hid (∀ w2, Below w.heap.size w w2 → BlkIs w2 w.heap.size 24 #[.slice A n c] → BlkIs w2 (w.heap.size + 1) 22 #[.slice none 0 0] → w2.heap.size = w.heap.size + 2 →
      Calls Tryz.prog 14 #[.func (.func 29) #[] #[.pointer (some ⟨w.heap.size, 0, none⟩), .pointer (some ⟨w.heap.size + 1, 0, none⟩)]] w2 fun e w' => ∃ x, e = .returned (.int .i64 x) ∧ Qs (w2.alloc (.cells #[.int .i64 0] 25)) w.heap.size (w.heap.size + 1) ls x w') := Lib.hid fun w2 g1 g2 g3 g4 => by
    refine Fa.attempt_c 29 _ w2 _ (enters_of Tryz.func29 (by kernel_rfl) rfl _) ?_
    have ga : Below w2.heap.size w2 (w2.alloc (.cells #[.int .i64 0] 25)) := (Below.refl _ _).alloc (Nat.le_refl _) _
    have gb := g1.trans (ga.mono (by omega))
    exact export1_any ((h.below gb).more gb.size) n c hn hnb hsm htot (hG.below gb hG.lt) (by omega) (by omega) (by omega) (BlkIs.new w2 _ _) (g2.alloc _) (g3.alloc _)
  have HKB := Lib.hid (And.intro kB (And.intro k1 (And.intro k2 kz)))
  clear h hn hnb hsm htot hG kB k1 k2 kz
  go_enter Tryz.func13, Tryz.ntmps13
  go_wp2_with fail
  refine (HAT.out _ HKB.out.1 HKB.out.2.1 HKB.out.2.2.1 HKB.out.2.2.2).mono ?_
  rintro e w3 ⟨x, rfl, hbel, hq⟩
  have HB3 : Below w.heap.size w w3 := (HKB.out.1.alloc (by simp; omega) _).trans hbel
  have HBH := Lib.hid HB3
  clear hbel HB3 HAT HKB
  rcases hq with ⟨rfl, h1, v, h3, h4⟩ | ⟨rfl, h1, h3⟩
  · have y0 := (h3.cell 0).trans (rfl : _ = some v)
    have HF := Lib.hid (And.intro h1 h4)
    clear h1 h3 h4
    go_wp2_with fail
    refine bodyPost_ret (results_tmp2 rfl _ _ _) rfl ?_
    exact ⟨HBH.out, .inl ⟨HF.out.1, v, rfl, HF.out.2⟩⟩
  · have y0 := (h3.cell 0).trans (rfl : _ = some (Value.slice none 0 0))
    have HF := Lib.hid h1
    clear h1 h3
    go_wp2_with fail
    refine bodyPost_ret (results_tmp2 rfl _ _ _) rfl ?_
    exact ⟨HBH.out, .inr ⟨HF.out, rfl⟩⟩
end Mb
end Go.Proofs.YtamekflgidfnfaaGreatDoor
