/- The document's Parse. Conditions: as stated at each. -/
import Derived.Test.YtliaciojlcajdaaDoorHdAwake
import Derived.Test.YtliaciojlcajdaaDoorHdRun
import Derived.Deep.CutBlock
namespace Go.Proofs.YtliaciojlcajdaaDoor
set_option maxRecDepth 100000
namespace Hd
open Go.RowKit Go Go.Proofs.YtliaciojlcajdaaDoor.Pa
/-- what the document's Parse answers. -/
def RParseP (w : World) (bl : Nat) (res : Option (List F × List UInt8)) (e : Ending) (w' : World) : Prop :=
  (∃ fs r k v, res = some (fs, r) ∧ k + r.length = bl ∧ e = .returned (.tuple #[v, .int .i64 (k : Nat), .int .i64 0]) ∧ OwnA w' w.heap.size v (fs.map trimF) ∧ Below w.heap.size w w') ∨
  (res = none ∧ e = .returned (.tuple #[.slice none 0 0, .int .i64 0, .int .i64 80]) ∧ Below w.heap.size w w')
set_option maxHeartbeats 3200000 in
theorem rparse_any {w : World} {A : Option Addr} {b : List UInt8} (hb : Bts w w.heap.size A b) (c : Nat) (hc : b.length ≤ c) (_hm : c ≤ maxLen) (hl : b.length ≤ 90000)
    (res : Option (List F × List UInt8)) (hrun : Run [] b res) (hres : ∀ gs r, res = some (gs, r) → gs.length ≤ 1000 ∧ b.length - r.length ≤ 100000) :
    Calls Tryd.prog 10 #[.slice A b.length c] w (RParseP w b.length res) := by
  have HBT := Lib.hid hb
  have HRS := Lib.hid hres
  have HRUN := Lib.hid hrun
  clear hb hres hrun
  generalize hbn : b.length = n at *
  have HBN := Lib.hid hbn
  clear hbn
  unfold maxLen at _hm
  have HLB := Lib.hid hl
  have hl6 : n ≤ 1000000 := by omega
  clear hl
  go_enter Tryd.func10, Tryd.ntmps10
  go_upto_block 0 with fail
  go_cut [5, 6] from 7 to 76 (fun x5 x6 wd => ∃ fs r k, res = some (fs, r) ∧ k + r.length = n ∧ x6 = .int .i64 (k : Nat) ∧ OwnA wd w.heap.size x5 fs ∧ Below w.heap.size w wd)
  case first =>
    go_wp2_with fail
    go_loopw [5, 6] (fun x5 x6 wr => ∃ fs k, Run fs (b.drop k) res ∧ k ≤ n ∧ x6 = .int .i64 (k : Nat) ∧ OwnA wr w.heap.size x5 fs ∧ Below w.heap.size w wr ∧ fs.length ≤ k ∧ ∀ f ∈ fs, f.2.length ≤ k) (fun _ x6 _ => n - (intOf x6).toNat)
    case atStart => exact ⟨[], 0, HRUN.out, Nat.zero_le _, rfl, World.ownsRow_nil _ _ _ _, Below.refl _ _, Nat.zero_le _, by simp⟩
    case round =>
      obtain ⟨fs, k, hr, hk, rfl, hown, hbel, hfl, hfb⟩ := hrel
      by_cases hlt : k < n
      · obtain ⟨ad, rfl, had, _⟩ := HBT.out.at_ (k := k) (by rw [HBN.out]; exact hlt)
        have hck : ¬ c = k := by omega
        have hbw := HBT.out.below hbel
        have hdl : (b.drop k).length = n - k := by rw [List.length_drop, HBN.out]
        have HLI : Hid (Calls Tryd.prog 25 #[.slice (some (ad.add k)) (n - k) (c - k)] wr fun e w' => e = .returned (lineV (b.drop k)) ∧ wr = w') := Lib.hid (by
          have := rline_any (hbw.drop_eq k) (c - k) (by omega) (by omega)
          rwa [hdl] at this)
        clear hbw
        have hsz0 : w.heap.size ≤ wr.heap.size := hbel.size
        rcases hr.inv with ⟨hcut, hrs⟩ | ⟨r, hcut, hrs⟩ | ⟨x, y, r, hcut, hcase⟩
        · have e0 : lineV (b.drop k) = .tuple #[.string ⟨#[]⟩, .bool false] := by unfold lineV; rw [hcut]
          rw [e0] at HLI
          have HF := Lib.hid (And.intro hrs (And.intro hown (And.intro hbel hdl)))
          clear hown hbel hr hrs hfl hfb e0 hcut hdl
          go_wp2_with (first
            | (refine HLI.out.mono ?_; rintro e w' ⟨rfl, rfl⟩)
            | fail)
          go_meet
          exact ⟨fs, _, k, HF.out.1, by rw [HF.out.2.2.2]; omega, rfl, HF.out.2.1, HF.out.2.2.1⟩
        · have hlen := cut2_len hcut
          rw [hdl] at hlen
          have e0 : lineV (b.drop k) = .tuple #[.string (str []), .bool true] := by unfold lineV; rw [hcut]
          rw [e0] at HLI
          have HF := Lib.hid (And.intro hrs (And.intro hown hbel))
          have he := emp_t
          have hrl : k + 2 + r.length = n := by simp at hlen; omega
          have HRL := Lib.hid hrl
          clear hown hbel hr hrs hfl hfb e0 hcut hdl hrl hlen
          go_wp2_with (first
            | (refine HLI.out.mono ?_; rintro e w' ⟨rfl, rfl⟩)
            | fail)
          go_meet
          exact ⟨fs, r, k + 2, HF.out.1, HRL.out, by go_num, HF.out.2.1, HF.out.2.2⟩
        · have hlen := cut2_len hcut
          rw [hdl] at hlen
          obtain ⟨s, hs⟩ : ∃ s, s = x :: y := ⟨_, rfl⟩
          have e0 : lineV (b.drop k) = .tuple #[.string (str s), .bool true] := by unfold lineV; rw [hcut, hs]
          rw [e0] at HLI
          have hrd : r = b.drop (k + s.length + 2) := by
            have := (cut2_some hcut).2.2.2.2
            rw [List.drop_drop] at this
            rw [this, hs, Nat.add_assoc]
          have hne : s ≠ [] := by rw [hs]; simp
          have he := emp_f hne
          have hs0 : 0 < (str s).size := by rw [str_size, hs]; simp
          have hc0 := str_at s 0 hs0
          rw [show s.getD 0 0 = x by rw [hs]; rfl] at hc0
          have hsz := str_size s
          rw [← hs] at hlen
          have hml : k + s.length + 2 ≤ n := by omega
          have hm6 : s.length ≤ 1000000 := by omega
          have HBK : Hid (∀ w, Calls Tryd.prog 26 #[.int .u8 (x.toNat : Int)] w fun e w' => e = .returned (.bool (blankB x)) ∧ w = w') := Lib.hid (rblank_any x)
          have HCO := Lib.hid (fun w => colon_any s w hm6)
          obtain ⟨A5, c5, rfl, hc5, hm5⟩ := own_slice2 hown
          have hfn : (fv fs).length = fs.length := fv_length fs
          clear e0 hdl hlen
          have HS := Lib.hid hs
          clear hs
          rcases hcase with ⟨hbl, hfs0, hrs⟩ | ⟨hbl, hfs0, hrs⟩ | ⟨hbl, hfb2, hrs⟩ | ⟨hbl, hfb2, hrs⟩
          · subst hfs0
            rw [hbl] at HBK
            have HF := Lib.hid (And.intro hrs hbel)
            rw [show (fv []).length = 0 from rfl]
            clear hown hbel hr hrs hfl hfb hcut hrd hne hfn hc5
            generalize str s = t at *
            generalize s.length = m at *
            go_wp2_with (first
              | (go_at_call 25; refine HLI.out.mono ?_; rintro e w' ⟨rfl, rfl⟩)
              | (go_at_call 26; refine (HBK.out _).mono ?_; rintro e w' ⟨rfl, rfl⟩)
              | fail)
            refine bodyPost_ret (results_tmp3 rfl _ _ _) rfl ?_
            exact .inr ⟨HF.out.1, rfl, HF.out.2⟩
          · rw [hbl] at HBK
            obtain ⟨fs0, f, rfl⟩ : ∃ fs0 f, fs = fs0 ++ [f] := by
              rcases List.eq_nil_or_concat fs with h | ⟨l, x, h⟩
              · exact absurd h hfs0
              · exact ⟨l, x, by simpa using h⟩
            obtain ⟨g, rfl, hgN, hg, hrange, hfz⟩ := own_range hown (by rw [fv_append, pc_append]; simp [fv, pc])
            have hq : (fv (fs0 ++ [f])).length = fs0.length + 1 := by rw [fv_length]; simp
            have hcell := hrange (fs0.length * 2 + 1) (.string (str f.2)) ((pc_get (xs := fv (fs0 ++ [f])) (k := fs0.length) (p := (.string (str f.1), .string (str f.2))) (by rw [fv_append]; simp [fv])).2)
            rw [Nat.zero_add] at hcell
            have hfr := hfz (fs0.length * 2 + 1)
            have happ := str_append f.2 s
            have hown2 := own_set hown (fs0.length * 2 + 1) (.string (str (f.2 ++ s)))
            rw [show (pc (fv (fs0 ++ [f]))).set (fs0.length * 2 + 1) (.string (str (f.2 ++ s))) = pc (fv (fs0 ++ [(f.1, f.2 ++ s)])) by
              rw [fv_append, fv_append, pc_append, pc_append, List.set_append_right _ _ (by rw [pc_length, fv_length]; omega), pc_length, fv_length]
              simp [fv, pc]] at hown2
            have hown3 : OwnA (wr.setCell ⟨g, fs0.length * 2 + 1, none⟩ (.string (str (f.2 ++ s)))) w.heap.size (.slice (some ⟨g, 0, none⟩) (fv (fs0 ++ [f])).length c5) (fs0 ++ [(f.1, f.2 ++ s)]) := by
              unfold OwnA
              rw [show (fv (fs0 ++ [(f.1, f.2 ++ s)])).length = (fv (fs0 ++ [f])).length by rw [fv_length, fv_length]; simp]
              exact hown2
            have hbel3 : Below w.heap.size w (wr.setCell ⟨g, fs0.length * 2 + 1, none⟩ (.string (str (f.2 ++ s)))) := hbel.setCell hgN _
            have hrs2 : Run (fs0 ++ [(f.1, f.2 ++ s)]) (b.drop (k + s.length + 2)) res := by rw [← goOnL_snoc, ← hrd, HS.out]; exact hrs
            have hfl3 : (fs0 ++ [(f.1, f.2 ++ s)]).length ≤ k + s.length + 2 := by simp at hfl ⊢; omega
            have hfb3 : ∀ x ∈ fs0 ++ [(f.1, f.2 ++ s)], x.2.length ≤ k + s.length + 2 := by
              intro x hx
              rcases List.mem_append.1 hx with hx | hx
              · have := hfb x (List.mem_append_left _ hx); omega
              · rw [List.mem_singleton] at hx
                have := hfb f (by simp)
                rw [hx, List.length_append]
                omega
            have HF := Lib.hid (And.intro hown3 (And.intro hbel3 (And.intro hrs2 (And.intro hfl3 (And.intro hfb3 hml)))))
            have hq6 : fs0.length ≤ 1000000 := by simp at hfl; omega
            have hsf : (str f.2).size ≤ 1000000 := by
              have := hfb f (by simp)
              rw [str_size]; omega
            have hk6 : k ≤ 1000000 := by omega
            have HSZ := Lib.hid hsz
            clear hown hbel hr hrs hfl hfb hcut hrd hne hfn hc5 hown2 hown3 hbel3 hrs2 hfl3 hfb3 hrange hfz hml hfs0
            obtain ⟨m5, hm5'⟩ : ∃ m5, m5 = (fv (fs0 ++ [f])).length := ⟨_, rfl⟩
            rw [← hm5'] at HF hq ⊢
            have HQ := Lib.hid (And.intro hq hm5')
            have hx1 : (m5 : Int) - 1 = (fs0.length : Int) := by omega
            have hx2 : ((m5 : Int) == 0) = false := by rw [beq_eq_false_iff_ne]; omega
            have hx3 : fs0.length < m5 := by omega
            have hx4 : (fs0.length : Int) < m5 := by omega
            have hx5 : (0 : Int) ≤ fs0.length := by omega
            have hm6' : (m5 : Int) ≤ 1000001 := by omega
            clear hq hm5'
            generalize hqq : fs0.length = q at *
            have HQQ := Lib.hid hqq
            clear hqq
            generalize hst : str s = t at *
            generalize s.length = m at *
            go_wp2_with (first
              | (go_at_call 25; refine HLI.out.mono ?_; rintro e w' ⟨rfl, rfl⟩)
              | (go_at_call 26; refine (HBK.out _).mono ?_; rintro e w' ⟨rfl, rfl⟩)
              | fail)
            exact ⟨⟨_, k + m + 2, HF.out.2.2.1, HF.out.2.2.2.2.2, by go_num, HF.out.1, HF.out.2.1, HF.out.2.2.2.1, HF.out.2.2.2.2.1⟩, by simp [intOf]; omega⟩
          · have hfs : fieldB s = true := by rw [HS.out]; exact hfb2
            have hhas : has 58 s = true := by unfold fieldB at hfs; simp only [Bool.and_eq_true] at hfs; exact hfs.1
            have hnam : nameS (Pa.ahead 58 s) = true := by unfold fieldB at hfs; simp only [Bool.and_eq_true] at hfs; exact hfs.2
            have hmem : (58 : UInt8) ∈ s := by
              rcases Decidable.em ((58 : UInt8) ∈ s) with h | h
              · exact h
              · rw [Pa.has_f h] at hhas; cases hhas
            have hbl2 := Pa.behind_len hmem
            rw [hbl] at HBK
            rw [hhas] at HCO
            have hx1 : (str s).extract 0 (Pa.ahead 58 s).length = str (Pa.ahead 58 s) := by rw [str_extract, List.drop_zero, Nat.sub_zero, (Pa.take_ahead hmem).1]
            have hx2 : (str s).extract ((Pa.ahead 58 s).length + 1) s.length = str (Pa.behind 58 s) := by rw [str_extract, (Pa.take_ahead hmem).2, List.take_of_length_le (by omega)]
            have HNM : Hid (∀ w, Calls Tryd.prog 19 #[.string (str (Pa.ahead 58 s))] w fun e w' => e = .returned (.bool true) ∧ w = w') := Lib.hid (fun w => by
              have := rname_any (Pa.ahead 58 s) w (by omega)
              rwa [hnam] at this)
            have hrs2 : Run (fs ++ [(Pa.ahead 58 s, Pa.behind 58 s)]) (b.drop (k + s.length + 2)) res := by rw [← hrd, HS.out]; exact hrs
            have hfl3 : (fs ++ [(Pa.ahead 58 s, Pa.behind 58 s)]).length ≤ k + s.length + 2 := by rw [List.length_append, List.length_singleton]; omega
            have hfb3 : ∀ x ∈ fs ++ [(Pa.ahead 58 s, Pa.behind 58 s)], x.2.length ≤ k + s.length + 2 := by
              intro x hx
              rcases List.mem_append.1 hx with hx | hx
              · have := hfb x hx; omega
              · rw [List.mem_singleton] at hx
                rw [hx]
                show (Pa.behind 58 s).length ≤ _
                omega
            have HF := Lib.hid (And.intro hbel (And.intro hrs2 (And.intro hfl3 (And.intro hfb3 hml))))
            have HOW := Lib.hid (show wr.ownsRow w.heap.size 47 2 (.slice A5 (fv fs).length c5) (fv fs).length (pc (fv fs)) from hown)
            have hkb : (fv fs).length + 1 ≤ 1000000000 := by rw [hfn]; omega
            have hk6 : k ≤ 1000000 := by omega
            have ha1 : (Pa.ahead 58 s).length + 1 ≤ s.length := by omega
            have ha2 : ((Pa.ahead 58 s).length : Int) + 1 ≤ s.length := by omega
            have ha0 : (0 : Int) ≤ (Pa.ahead 58 s).length := by omega
            have HSZ := Lib.hid hsz
            rw [← hsz] at hx2
            clear hown hbel hr hrs hfl hfb hcut hrd hne hfn hc5 hrs2 hfl3 hfb3 hml hfs hhas hnam hmem hbl2 hsz
            generalize hsa' : str (Pa.ahead 58 s) = sa at *
            generalize hsb' : str (Pa.behind 58 s) = sb at *
            have HSAB := Lib.hid (And.intro hsa' hsb')
            clear hsa' hsb'
            generalize (Pa.ahead 58 s).length = na at *
            have HX1 := Lib.hid hx1
            have HX2 := Lib.hid hx2
            clear hx1 hx2
            have hts := HSZ.out
            generalize str s = t at *
            generalize hsm : s.length = m at *
            have hta : na + 1 ≤ t.size := by omega
            have hta2 : (na : Int) + 1 ≤ t.size := by omega
            have hx1 := HX1.out
            clear hts
            go_wp2_with (first
              | (go_at_call 25; refine HLI.out.mono ?_; rintro e w' ⟨rfl, rfl⟩)
              | (go_at_call 26; refine (HBK.out _).mono ?_; rintro e w' ⟨rfl, rfl⟩)
              | (go_at_call 27; refine (HCO.out _).mono ?_; rintro e w' ⟨rfl, rfl⟩)
              | (go_at_call 19; refine (HNM.out _).mono ?_; rintro e w' ⟨rfl, rfl⟩)
              | fail)
            have hx2 := HX2.out
            have hna1 : IntKind.i64.wrap ((na : Int) + 1) = na + 1 := IntWalk.i64_in _ (by omega)
            have hna2 : ((na : Int) + 1).toNat = na + 1 := by omega
            have hbu := fun w => run_build47 sa sb w
            refine wp_region_held_drew (S := (fun _ => True)) (by kernel_rfl) (trivial) (fun hHeld => ?_)
            have hd1 : Below wr.heap.size wr wr.drew := (Below.refl _ _).drew
            generalize wr.drew = wd at *
            refine wpAnyH_take (i := 0) (v := .slice A5 (fv fs).length c5) rfl (by kernel_rfl) (by kernel_rfl) (by kernel_rfl) (fun _ _ _ h => h) (Or.inl ⟨by rfl, fun w hS => by first | (go_simp; done) | (go_simp; with_reducible rfl)⟩) hHeld ?_
            try simp only [Act.put, List.getElem_toArray, List.getElem_cons_zero, List.setIfInBounds_toArray, List.set_cons_zero, List.set_cons_succ]
            refine wpAnyH_take (i := 1) (v := .string t) rfl (by kernel_rfl) (by kernel_rfl) (by kernel_rfl) (fun _ _ _ h => h) (Or.inl ⟨by rfl, fun w hS => by first | (go_simp; done) | (go_simp; with_reducible rfl)⟩) hHeld ?_
            try simp only [Act.put, List.getElem_toArray, List.getElem_cons_zero, List.getElem_cons_succ, List.setIfInBounds_toArray, List.set_cons_zero, List.set_cons_succ]
            refine wpAnyH_take (i := 2) (v := .int .i64 na) rfl (by kernel_rfl) (by kernel_rfl) (by kernel_rfl) (fun _ _ _ h => h) (Or.inl ⟨by rfl, fun w hS => by first | (go_simp; done) | (go_simp; with_reducible rfl)⟩) hHeld ?_
            try simp only [Act.put, List.getElem_toArray, List.getElem_cons_zero, List.getElem_cons_succ, List.setIfInBounds_toArray, List.set_cons_zero, List.set_cons_succ]
            refine wpAnyH_take (i := 3) (v := .string sa) rfl (by kernel_rfl) (by kernel_rfl) (by kernel_rfl) (fun _ _ _ h => h) (Or.inl ⟨by rfl, fun w hS => by first | (go_simp; done) | (go_simp; with_reducible rfl)⟩) hHeld ?_
            try simp only [Act.put, List.getElem_toArray, List.getElem_cons_zero, List.getElem_cons_succ, List.setIfInBounds_toArray, List.set_cons_zero, List.set_cons_succ]
            refine wpAnyH_take (i := 4) (v := .string t) rfl (by kernel_rfl) (by kernel_rfl) (by kernel_rfl) (fun _ _ _ h => h) (Or.inl ⟨by rfl, fun w hS => by first | (go_simp; done) | (go_simp; with_reducible rfl)⟩) hHeld ?_
            try simp only [Act.put, List.getElem_toArray, List.getElem_cons_zero, List.getElem_cons_succ, List.setIfInBounds_toArray, List.set_cons_zero, List.set_cons_succ]
            refine wpAnyH_take (i := 5) (v := .int .i64 na) rfl (by kernel_rfl) (by kernel_rfl) (by kernel_rfl) (fun _ _ _ h => h) (Or.inl ⟨by rfl, fun w hS => by first | (go_simp; done) | (go_simp; with_reducible rfl)⟩) hHeld ?_
            try simp only [Act.put, List.getElem_toArray, List.getElem_cons_zero, List.getElem_cons_succ, List.setIfInBounds_toArray, List.set_cons_zero, List.set_cons_succ]
            refine wpAnyH_take (i := 6) (v := .int .i64 ((na : Int) + 1)) rfl (by kernel_rfl) (by kernel_rfl) (by kernel_rfl) (fun _ _ _ h => h) (Or.inl ⟨by rfl, fun w hS => by first | (go_simp; done) | (go_simp; with_reducible rfl)⟩) hHeld ?_
            try simp only [Act.put, List.getElem_toArray, List.getElem_cons_zero, List.getElem_cons_succ, List.setIfInBounds_toArray, List.set_cons_zero, List.set_cons_succ]
            refine wpAnyH_take (i := 7) (v := .string sb) rfl (by kernel_rfl) (by kernel_rfl) (by kernel_rfl) (fun _ _ _ h => h) (Or.inl ⟨by rfl, fun w hS => by first | (go_simp; done) | (go_simp; intro hx; exfalso; omega)⟩) hHeld ?_
            try simp only [Act.put, List.getElem_toArray, List.getElem_cons_zero, List.getElem_cons_succ, List.setIfInBounds_toArray, List.set_cons_zero, List.set_cons_succ]
            refine wpAnyH_take (i := 8) (v := .agg #[.string sa, .string sb]) rfl (by kernel_rfl) (by kernel_rfl) (by kernel_rfl) (fun _ _ _ h => h) (Or.inl ⟨by rfl, fun w hS => by first | (go_simp; done) | (go_simp; with_reducible rfl)⟩) hHeld ?_
            try simp only [Act.put, List.getElem_toArray, List.getElem_cons_zero, List.getElem_cons_succ, List.setIfInBounds_toArray, List.set_cons_zero, List.set_cons_succ]
            have ha3 : Below wr.heap.size wr (wd.alloc (.cells #[.string sa, .string sb] 47)) := hd1.alloc hd1.size _
            have hq3 := BlkIs.new wd 47 #[.string sa, .string sb]
            have HQ := Lib.hid (And.intro ha3 hq3)
            clear ha3 hq3 hbu hx1 hx2 hd1
            refine wpAnyH_ready (rs := [9]) (by kernel_rfl) (by simp) ?_
            refine AllReadyH.cons rfl (fun K hK => ?_) AllReadyH.nil
            go_simp
            refine hK.out _ _ ?_ (fun hHeld => ?_)
            · trivial
            clear hK K
            try simp only [Act.put, List.getElem_toArray, List.getElem_cons_zero, List.getElem_cons_succ, List.setIfInBounds_toArray, List.set_cons_zero, List.set_cons_succ]
            generalize wd.alloc (.cells #[.string sa, .string sb] 47) = w3 at *
            have c30 := (HQ.out.2.cell 0).trans (rfl : _ = some (Value.string sa))
            have c31 := (HQ.out.2.cell 1).trans (rfl : _ = some (Value.string sb))
            have HO3 := Lib.hid (own_kept2 HOW.out HQ.out.1 (Nat.le_refl _))
            have hz3 : w.heap.size ≤ w3.heap.size := Nat.le_trans hsz0 HQ.out.1.size
            refine wpAnyH_ready (rs := [10]) (by kernel_rfl) (by simp) ?_
            refine AllReadyH.cons rfl (fun K hK => ?_) AllReadyH.nil
            (refine stepP (.tmp 61) (.tmp 70) Tryd.underlying24 info47 (by rfl) (by decide) (by rfl) (by rfl) (by rfl) HO3.out (p := (.string sa, .string sb)) (by rfl) (by rfl) (by rfl) c30 c31 hkb hz3 ?_; intro v4 w4 ho4 hg4 hv4)
            refine hK.out _ _ ?_ (fun hHeld => ?_)
            · trivial
            clear hK K
            try simp only [Act.put, List.getElem_toArray, List.getElem_cons_zero, List.getElem_cons_succ, List.setIfInBounds_toArray, List.set_cons_zero, List.set_cons_succ]
            refine wpAnyH_ready (rs := [11]) (by kernel_rfl) (by simp) ?_
            refine AllReadyH.cons rfl (fun K hK => ?_) AllReadyH.nil
            go_simp
            refine hK.out _ _ ?_ (fun hHeld => ?_)
            · trivial
            clear hK K
            try simp only [Act.put, List.getElem_toArray, List.getElem_cons_zero, List.getElem_cons_succ, List.setIfInBounds_toArray, List.set_cons_zero, List.set_cons_succ]
            refine wpAnyH_done (by kernel_rfl) ?_ _
            have hO5 : OwnA w4 w.heap.size v4 (fs ++ [(Pa.ahead 58 s, Pa.behind 58 s)]) := by
              unfold OwnA
              rw [fv_append, show fv [(Pa.ahead 58 s, Pa.behind 58 s)] = [(Value.string sa, Value.string sb)] by rw [← HSAB.out.1, ← HSAB.out.2]; rfl]
              exact ho4
            have hB5 : Below w.heap.size w w4 := (HF.out.1.trans (HQ.out.1.mono hsz0)).grown hg4 hz3 (fun b hb => (HOW.out.lt b hb).1)
            have HF2 := Lib.hid (And.intro hO5 hB5)
            clear hO5 hB5 ho4 hg4 hv4 c30 c31
            have hts := HSZ.out
            go_wp2_with fail
            exact ⟨⟨_, k + m + 2, HF.out.2.1, HF.out.2.2.2.2, by go_num, HF2.out.1, HF2.out.2, HF.out.2.2.1, HF.out.2.2.2.1⟩, by simp [intOf]; omega⟩
          · have hfs : fieldB s = false := by rw [HS.out]; exact hfb2
            rw [hbl] at HBK
            have hrl : k + (b.drop k).length = n := by rw [List.length_drop, HBN.out]; omega
            have HF := Lib.hid (And.intro hrs (And.intro hrl (And.intro hown hbel)))
            have hk6 : k ≤ 1000000 := by omega
            cases hhas : has 58 s with
            | false =>
              rw [hhas] at HCO
              clear hown hbel hr hrs hfl hfb hcut hrd hne hfn hc5 hml hrl hfs hsz
              generalize str s = t at *
              go_wp2_with (first
                | (go_at_call 25; refine HLI.out.mono ?_; rintro e w' ⟨rfl, rfl⟩)
                | (go_at_call 26; refine (HBK.out _).mono ?_; rintro e w' ⟨rfl, rfl⟩)
                | (go_at_call 27; refine (HCO.out _).mono ?_; rintro e w' ⟨rfl, rfl⟩)
                | fail)
              go_meet
              exact ⟨fs, _, k, HF.out.1, HF.out.2.1, rfl, HF.out.2.2⟩
            | true =>
              rw [hhas] at HCO
              have hmem : (58 : UInt8) ∈ s := by
                rcases Decidable.em ((58 : UInt8) ∈ s) with h | h
                · exact h
                · rw [Pa.has_f h] at hhas; cases hhas
              have hbl2 := Pa.behind_len hmem
              have hnam : nameS (Pa.ahead 58 s) = false := by unfold fieldB at hfs; rw [hhas, Bool.true_and] at hfs; exact hfs
              have hx1 : (str s).extract 0 (Pa.ahead 58 s).length = str (Pa.ahead 58 s) := by rw [str_extract, List.drop_zero, Nat.sub_zero, (Pa.take_ahead hmem).1]
              have HNM : Hid (∀ w, Calls Tryd.prog 19 #[.string (str (Pa.ahead 58 s))] w fun e w' => e = .returned (.bool false) ∧ w = w') := Lib.hid (fun w => by
                have := rname_any (Pa.ahead 58 s) w (by omega)
                rwa [hnam] at this)
              have ha1 : (Pa.ahead 58 s).length + 1 ≤ s.length := by omega
              have ha0 : (0 : Int) ≤ (Pa.ahead 58 s).length := by omega
              have HSZ := Lib.hid hsz
              clear hown hbel hr hrs hfl hfb hcut hrd hne hfn hc5 hml hrl hfs hsz hhas hnam hmem hbl2
              generalize str (Pa.ahead 58 s) = sa at *
              generalize (Pa.ahead 58 s).length = na at *
              have hts := HSZ.out
              generalize str s = t at *
              generalize s.length = m at *
              have hta : na + 1 ≤ t.size := by omega
              have hta2 : (na : Int) + 1 ≤ t.size := by omega
              clear hts
              go_wp2_with (first
                | (go_at_call 25; refine HLI.out.mono ?_; rintro e w' ⟨rfl, rfl⟩)
                | (go_at_call 26; refine (HBK.out _).mono ?_; rintro e w' ⟨rfl, rfl⟩)
                | (go_at_call 27; refine (HCO.out _).mono ?_; rintro e w' ⟨rfl, rfl⟩)
                | (go_at_call 19; refine (HNM.out _).mono ?_; rintro e w' ⟨rfl, rfl⟩)
                | fail)
              go_meet
              exact ⟨fs, _, k, HF.out.1, HF.out.2.1, rfl, HF.out.2.2⟩
      · have hkn : k = n := by omega
        have hrs : res = some (fs, b.drop k) := by
          have hd : b.drop k = [] := by rw [List.drop_eq_nil_iff]; have := HBN.out; omega
          rw [hd] at hr ⊢
          rcases hr.inv with ⟨_, e⟩ | ⟨r', e, _⟩ | ⟨x, y, z, e, _⟩
          · exact e
          · cases e
          · cases e
        have hkl : k + (b.drop k).length = n := by rw [List.length_drop, HBN.out]; omega
        have HF := Lib.hid (And.intro hrs (And.intro hkl (And.intro hown hbel)))
        clear hown hbel hr hrs hfl hfb hkl
        go_wp2_with fail
        go_meet
        exact ⟨fs, _, k, HF.out.1, HF.out.2.1, rfl, HF.out.2.2⟩
  case rest =>
    obtain ⟨fs, r, k, hrs, hkr, rfl, hown, hbel⟩ := hcut
    obtain ⟨hl1, hl2⟩ := HRS.out fs r hrs
    have hk5 : k ≤ 100000 := by omega
    have HBD : Hid (∀ f ∈ fs, f.2.length ≤ 1000000) := Lib.hid (fun f hf => by
      have := (show Run [] b (some (fs, r)) from hrs ▸ HRUN.out).short f hf
      have := HBN.out
      omega)
    obtain ⟨A5, c5, rfl, hc5, hm5⟩ := own_slice2 hown
    have HFL : Hid ((fv fs).length = fs.length) := Lib.hid (fv_length fs)
    have hb1 : (fv fs).length ≤ 1000 := by rw [HFL.out]; exact hl1
    have HF := Lib.hid (And.intro hrs hkr)
    have HL : Hid (∀ j, (fv ((fs.take j).map trimF ++ fs.drop j)).length = (fv fs).length) := Lib.hid (fun j => by rw [fv_length, fv_length]; simp; omega)
    have HO : Hid (wc.ownsRow w.heap.size 47 2 (.slice A5 (fv fs).length c5) (fv fs).length (pc (fv ((fs.take 0).map trimF ++ fs.drop 0)))) := Lib.hid hown
    have HB := Lib.hid hbel
    clear hrs hkr hl1 hl2 hown hbel hl6
    generalize hmm : (fv fs).length = m at *
    have HMM := Lib.hid hmm
    clear hmm
    have hb2 : (m : Int) ≤ 1000 := by omega
    have hb3 : (k : Int) ≤ 100000 := by omega
    go_wp2_with fail
    go_loopw [10, 86] (fun _ i wr => ∃ j : Nat, j ≤ m ∧ i = .int .i64 j ∧ wr.ownsRow w.heap.size 47 2 (.slice A5 m c5) m (pc (fv ((fs.take j).map trimF ++ fs.drop j))) ∧ Below w.heap.size w wr) (fun _ i _ => m - (intOf i).toNat)
    case atStart => exact ⟨0, Nat.zero_le _, rfl, HO.out, HB.out⟩
    case round =>
      obtain ⟨j, hj, rfl, hown, hbel⟩ := hrel
      by_cases hlt : j < m
      · have hjf : j < fs.length := by have := HFL.out; have := HMM.out; omega
        have hget : (fv ((fs.take j).map trimF ++ fs.drop j))[j]? = some (.string (str (fs[j]).1), .string (str (fs[j]).2)) := fv_get (by
          rw [List.getElem?_append_right (by simp; omega)]
          simp [Nat.min_eq_left (Nat.le_of_lt hjf)])
        obtain ⟨g, rfl, hgN, hg, hrange, hfz⟩ := own_range hown (by
          intro e
          have := (pc_get hget).1
          rw [e] at this
          cases this)
        have hcell := hrange (j * 2 + 1) _ (pc_get hget).2
        rw [Nat.zero_add] at hcell
        have hfr := hfz (j * 2 + 1)
        have hown2 := own_set hown (j * 2 + 1) (.string (str (trimB (fs[j]).2)))
        rw [show (pc (fv ((fs.take j).map trimF ++ fs.drop j))).set (j * 2 + 1) (.string (str (trimB (fs[j]).2))) = pc (fv ((fs.take (j + 1)).map trimF ++ fs.drop (j + 1))) by
          rw [List.drop_eq_getElem_cons hjf, List.take_succ_eq_append_getElem hjf, List.map_append, List.append_assoc, fv_append, fv_append, pc_append, pc_append,
            List.set_append_right _ _ (by rw [pc_length, fv_length]; simp; omega), pc_length, fv_length]
          rw [show j * 2 + 1 - ((fs.take j).map trimF).length * 2 = 1 by simp; omega]
          generalize fs.drop (j + 1) = D
          rfl] at hown2
        have hbel3 : Below w.heap.size w (wr.setCell ⟨g, j * 2 + 1, none⟩ (.string (str (trimB (fs[j]).2)))) := hbel.setCell hgN _
        have HR := Lib.hid (And.intro hown2 hbel3)
        have HTR : Hid (∀ w, Calls Tryd.prog 28 #[.string (str (fs[j]).2)] w fun e w' => e = .returned (.string (str (trimB (fs[j]).2))) ∧ w = w') := Lib.hid (fun w => rtrim_any _ w (HBD.out _ (List.getElem_mem hjf)))
        clear hown hbel hrange hfz hget hown2 hbel3
        generalize str (fs[j]).2 = s0 at *
        generalize str (trimB (fs[j]).2) = s1 at *
        go_wp2_with (first
          | (refine (HTR.out _).mono ?_; rintro e w2 ⟨rfl, rfl⟩)
          | fail)
        go_roundw
        case rel => exact ⟨j + 1, by omega, by go_num, HR.out⟩
        case measure => simp [intOf]; omega
      · have hjm : j = m := by omega
        have HR : Hid (OwnA wr w.heap.size (.slice A5 m c5) (fs.map trimF) ∧ Below w.heap.size w wr) := Lib.hid ⟨by
          unfold OwnA
          have hq : (fs.take j).map trimF ++ fs.drop j = fs.map trimF := by
            rw [List.take_of_length_le (by have := HFL.out; have := HMM.out; omega), List.drop_eq_nil_iff.2 (by have := HFL.out; have := HMM.out; omega), List.append_nil]
          rw [hq] at hown
          rw [show (fv (fs.map trimF)).length = m by rw [← HMM.out, fv_length, fv_length, List.length_map]]
          exact hown, hbel⟩
        clear hown hbel
        go_wp2_with fail
        refine bodyPost_ret (results_tmp3 rfl _ _ _) rfl ?_
        exact .inl ⟨fs, r, k, _, HF.out.1, HF.out.2, rfl, HR.out.1, HR.out.2⟩
end Hd
end Go.Proofs.YtliaciojlcajdaaDoor
