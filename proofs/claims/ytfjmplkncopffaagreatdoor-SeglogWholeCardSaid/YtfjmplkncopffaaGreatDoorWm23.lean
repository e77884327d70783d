/- SlReplM SlOrd. Conditions: as stated at each. -/
import Derived.Test.YtfjmplkncopffaaGreatDoorWm22
import Derived.Test.YtfjmplkncopffaaGreatDoorWm12
/- A log's replace, whenever the power fails. Conditions: as stated at each. -/
namespace Go.Proofs.YtfjmplkncopffaaGreatDoor
open Go.RowKit Go.Shelf Go Go.Maps
set_option maxHeartbeats 800000 in
theorem delete_down (W : World) (N : Nat) (Ft : Nat → Prop) (Dk k : Nat) (F : Files) (s : ByteArray) (rm x lf : Int) (hS : DiskS W N Ft Dk k F rm x lf true) :
    Calls Tryz.prog 52 #[.pointer (some ⟨Dk, 0, none⟩), .string s] W fun e w' => e = .returned (.int .i64 10) ∧ DiskS w' N Ft Dk k F rm x lf true ∧ Below W.heap.size W w' := by
  have hS0 := hS
  obtain ⟨M, D, hD, hM, f1, f2, hF⟩ := hS
  have HS := Lib.hid hS0
  clear hS0 hF
  have hx0 : ∀ w (v u : Value), (Instr.extract (.tuple #[v, u]) 0).run Tryz.prog w = .ok v w := fun _ _ _ => by kernel_rfl
  have hx1 : ∀ w (v u : Value), (Instr.extract (.tuple #[v, u]) 1).run Tryz.prog w = .ok u w := fun _ _ _ => by kernel_rfl
  have kB := three_below W 30 9 9 #[.pointer (some ⟨Dk, 0, none⟩)] #[.string s] #[.string s]
  go_enter Tryz.func52, Tryz.ntmps52
  go_wp2_with fail
  generalize (((W.alloc (Obj.cells #[Value.pointer (some ⟨Dk, 0, none⟩)] 30)).alloc (Obj.cells #[Value.string s] 9)).alloc (Obj.cells #[Value.string s] 9)) = W3 at *
  have kD : BlkIs W3 Dk 55 _ := (kB.block Dk hD.lt).trans hD
  refine (find_down W3 Dk M _ (kD.cell 0) (kD.cell 4) kD.lt).mono ?_
  rintro e W4 ⟨rfl, hb⟩
  unfold zeroFile
  have hB := kB.trans (hb.mono kB.size)
  go_wp2_with fail
  go_ret
  have hB5 := hB.alloc hB.size (.cells #[.slice none 0 0, .int .i64 0] 71)
  exact ⟨rfl, HS.out.below hB5, hB5⟩
set_option maxHeartbeats 3200000 in
set_option maxRecDepth 20000 in
theorem replace_L (W : World) (N : Nat) (Ft : Nat → Prop) (Dk k : Nat) (F : Files) (rm x lf : Int) (L G : Nat) (nm : ByteArray) (sz : Int) (g : List (Nat × Nat)) (j : Nat) (A : Option Addr) (cp : Nat) (news : List UInt8)
    (h : LogS W N Ft Dk k F rm x lf false L G nm sz g false) (hlow : ∀ i, Ft i → i < W.heap.size) (hj : j ≤ 999999) (hn : nmOk nm) (hf : F (fileN nm j ++ ⟨#[46, 110, 101, 119]⟩) = none) (hk : k + 4 < maxLen) (hx : 0 ≤ x) (hx2 : x + news.length ≤ 100000000) (hr : x + news.length ≤ rm) (hlf : lenOf F (fileN nm j) ≤ 100000000)
    (hlm : lf ≤ 9223372036854775807) (hN : N ≤ W.heap.size) (hA : ∀ W' w', Below W.heap.size W W' → Tn (UpFt Ft W'.heap.size) W' w' → Bts w' w'.heap.size A news) :
    Calls Tryz.prog 46 #[.pointer (some ⟨L, 0, none⟩), .int .i64 j, .slice A news.length cp] W fun e w' => ((e = .returned (.int .i64 0) ∧ LogS w' N (NewFt Ft W w') Dk (k + 4) (((((F.upd (fileN nm j ++ ⟨#[46, 110, 101, 119]⟩) (some ([], 0))).upd (fileN nm j ++ ⟨#[46, 110, 101, 119]⟩) (some ([] ++ news, 0))).upd (fileN nm j ++ ⟨#[46, 110, 101, 119]⟩) (some ([] ++ news, ([] ++ news).length))).upd (fileN nm j ++ ⟨#[46, 110, 101, 119]⟩) none).upd (fileN nm j) (some ([] ++ news, ([] ++ news).length))) rm (x + news.length - lenOf F (fileN nm j)) (lfA (lfA (lfA (lfA lf)))) false L G nm sz g false) ∨
      (e = .returned (.int .i64 10) ∧ ∃ F' x', CutR F (fileN nm j ++ ⟨#[46, 110, 101, 119]⟩) news x F' x' ∧ LogS w' N (NewFt Ft W w') Dk (k + 4) F' rm x' 1 true L G nm sz g false)) ∧ Tn Ft W w' := by
  have hmf : ∀ (fn : Fn) (first cap : Array Value) (w : World), (Instr.makeFunc fn first cap).run Tryz.prog w = .ok (.func fn first cap) w := fun _ _ _ _ => rfl
  have hen : ∀ args w, (callFunc 69 args).run Tryz.prog w = .ok (.enter 69 args) w := enters_of Tryz.func69 (by kernel_rfl) rfl
  have hn6 : nm.size ≤ 1000000 := by have := hn.1; omega
  have hnm := hn.1
  have hsz : (fileN nm j).size = nm.size + 7 := fileN_size nm j
  have hsp : (fileN nm j ++ (⟨#[46, 110, 101, 119]⟩ : ByteArray)).size = nm.size + 11 := by rw [ByteArray.size_append, hsz]; rfl
  have hne : fileN nm j ≠ fileN nm j ++ (⟨#[46, 110, 101, 119]⟩ : ByteArray) := fun e => by
    have := congrArg ByteArray.size e
    omega
  have hb := nameB_fileN hn j
  have hb2 : nameB (fileN nm j ++ (⟨#[46, 110, 101, 119]⟩ : ByteArray)) = true := nameB_spare hn j
  obtain ⟨k0, k1, kB⟩ : BlkIs ((W.alloc (.cells #[.pointer (some ⟨L, 0, none⟩)] 32)).alloc (.cells #[.slice A news.length cp] 26)) W.heap.size 32 #[.pointer (some ⟨L, 0, none⟩)] ∧ BlkIs ((W.alloc (.cells #[.pointer (some ⟨L, 0, none⟩)] 32)).alloc (.cells #[.slice A news.length cp] 26)) (W.heap.size + 1) 26 #[.slice A news.length cp] ∧ Below W.heap.size W ((W.alloc (.cells #[.pointer (some ⟨L, 0, none⟩)] 32)).alloc (.cells #[.slice A news.length cp] 26)) := by
    have a1 := BlkIs.new (W.alloc (.cells #[.pointer (some ⟨L, 0, none⟩)] 32)) 26 #[.slice A news.length cp]
    rw [World.size_alloc] at a1
    exact ⟨(BlkIs.new W 32 _).alloc _, a1, ((Below.refl _ W).alloc (Nat.le_refl _) _).alloc (by simp) _⟩
  go_enter Tryz.func46, Tryz.ntmps46
  go_wp2_with fail
  generalize (W.alloc (.cells #[.pointer (some ⟨L, 0, none⟩)] 32)).alloc (.cells #[.slice A news.length cp] 26) = W2 at *
  have hL2 := (h.below kB).2.1
  refine (lfile_any W2 L Dk nm sz G _ false j hL2 hj hn6).mono ?_
  rintro e w1 ⟨rfl, hb1⟩
  have k0' : BlkIs w1 _ 32 _ := (hb1.block _ k0.lt).trans k0
  have k1' : BlkIs w1 _ 26 _ := (hb1.block _ k1.lt).trans k1
  have B1 := kB.trans (hb1.mono kB.size)
  have j0 := k0'.alloc (.cells #[.string (fileN nm j)] 9)
  have j1 := k1'.alloc (.cells #[.string (fileN nm j)] 9)
  have j2 := BlkIs.new w1 9 #[.string (fileN nm j)]
  have B2 := B1.alloc B1.size (.cells #[.string (fileN nm j)] 9)
  have hz1 := B1.size
  have hz2 := hb1.size
  have hkz := k1.lt
  clear k0 k1 k0' k1' hb1 hL2 kB
  go_wp2_with fail
  have hlL := h.ltL
  have hlG := h.ltG
  have hB9 : w1.heap.size < (w1.alloc (.cells #[.string (fileN nm j)] 9)).heap.size := by simp
  generalize w1.alloc (.cells #[.string (fileN nm j)] 9) = W4 at *
  have B5 : Below W.heap.size W (W4.alloc (.cells #[.int .i64 0] 33)) := B2.alloc B2.size _
  have i3 := BlkIs.new W4 33 #[.int .i64 0]
  have i0 := j0.alloc (.cells #[.int .i64 0] 33)
  have i1 := j1.alloc (.cells #[.int .i64 0] 33)
  have i2 := j2.alloc (.cells #[.int .i64 0] 33)
  have hz4 := B2.size
  have hz5 : W4.heap.size < (W4.alloc (.cells #[.int .i64 0] 33)).heap.size := by simp
  have h5' := h.below B5
  have hnotU : ∀ i, i < (W4.alloc (.cells #[.int .i64 0] 33)).heap.size → ¬ Ft i → ¬ UpFt Ft (W4.alloc (.cells #[.int .i64 0] 33)).heap.size i := fun i h1 h2 e => e.elim h2 (fun e => by omega)
  have h5 : LogS (W4.alloc (.cells #[.int .i64 0] 33)) N (UpFt Ft (W4.alloc (.cells #[.int .i64 0] 33)).heap.size) Dk k F rm x lf false L G nm sz g false := h5'.more (fun i h => .inl h) (Nat.le_refl _) (hnotU L (by omega) h.2.2.2.1) (hnotU G (by omega) h.2.2.2.2)
  have out : ∀ i, W.heap.size ≤ i → ¬ Ft i := fun i hi e => by have := hlow i e; omega
  have hX : Box (W4.alloc (.cells #[.int .i64 0] 33)) L Dk W.heap.size w1.heap.size (W.heap.size + 1) (fileN nm j) (.slice A news.length cp) := ⟨i0, i2, i1, BlkIs.cell h5.2.1 0, by omega⟩
  have hr1 := repl1_L (W4.alloc (.cells #[.int .i64 0] 33)) N Ft Dk k F rm x lf L G nm sz g (W4.alloc (.cells #[.int .i64 0] 33)).heap.size W.heap.size w1.heap.size (W.heap.size + 1) A cp news (fileN nm j) h5 (Nat.le_refl _) hb hb2 (by omega) (by omega) hne hf hk hx hx2 hr hlf hlm (by omega) (fun w' hT => hA _ w' B5 hT) hX
    (hnotU _ (by omega) (out _ (Nat.le_refl _))) (hnotU _ (by omega) (out _ (by omega))) (hnotU _ (by omega) (out _ (by omega)))
  have hat := Lib.hid (attempt_c 69 _ W4 (fun y w' => ((y = 0 ∧ LogS w' N (NewFt Ft W w') Dk (k + 4) (((((F.upd (fileN nm j ++ ⟨#[46, 110, 101, 119]⟩) (some ([], 0))).upd (fileN nm j ++ ⟨#[46, 110, 101, 119]⟩) (some ([] ++ news, 0))).upd (fileN nm j ++ ⟨#[46, 110, 101, 119]⟩) (some ([] ++ news, ([] ++ news).length))).upd (fileN nm j ++ ⟨#[46, 110, 101, 119]⟩) none).upd (fileN nm j) (some ([] ++ news, ([] ++ news).length))) rm (x + news.length - lenOf F (fileN nm j)) (lfA (lfA (lfA (lfA lf)))) false L G nm sz g false) ∨ (y = 10 ∧ ∃ F' x', CutR F (fileN nm j ++ ⟨#[46, 110, 101, 119]⟩) news x F' x' ∧ LogS w' N (NewFt Ft W w') Dk (k + 4) F' rm x' 1 true L G nm sz g false)) ∧ Tn Ft W w' ∧ BlkIs w' W.heap.size 32 #[.pointer (some ⟨L, 0, none⟩)] ∧ BlkIs w' w1.heap.size 9 #[.string (fileN nm j)]) (hen _) (hr1.mono (by
    rintro e w' ⟨hc, q2⟩
    have hT1 : Tn (UpFt Ft (W4.alloc (.cells #[.int .i64 0] 33)).heap.size) W w' := (Tn.of_below B5).trans q2
    have hT2 : Tn Ft W w' := hT1.mono (fun i hi e => e.elim id (fun e => by omega))
    have o0 : BlkIs w' W.heap.size 32 _ := i0.tn q2 (hnotU _ (by omega) (out _ (Nat.le_refl _)))
    have o2 : BlkIs w' w1.heap.size 9 _ := i2.tn q2 (hnotU _ (by omega) (out _ (by omega)))
    refine ⟨i3.tn q2 (hnotU _ hz5 (out _ (by omega))), ?_⟩
    rcases hc with ⟨rfl, q1⟩ | ⟨rfl, F', x', hcut, q1⟩
    · exact .inl ⟨rfl, .inl ⟨rfl, q1.tight (by omega) h.2.2.2.1 hlL h.2.2.2.2 hlG⟩, hT2, o0, o2⟩
    · have tS := (Tn.refl (fun i => i = W4.heap.size) w').setCell (x := ⟨W4.heap.size, 0, none⟩) (.inl rfl) (.int .i64 10)
      have hq0 := q1.keep tS (fun i hi e => by
        subst e
        rcases hi with hi | hi | hi
        · exact hnotU _ hz5 (out _ (by omega)) hi
        · omega
        · omega)
      have hq := hq0.tight (W := W) (by omega) h.2.2.2.1 hlL h.2.2.2.2 hlG
      exact .inr ⟨10, rfl, .inr ⟨rfl, F', x', hcut, hq⟩, hT2.setCell (.inr (by show W.heap.size ≤ W4.heap.size; omega)) _, o0.far (by show W.heap.size ≠ W4.heap.size; omega) _, o2.far (by show w1.heap.size ≠ W4.heap.size; omega) _⟩)))
  clear hr1 hX h5 h5' i0 i1 i2 i3 j0 j1 j2 hA
  refine hat.out.mono ?_
  rintro e w' ⟨y, rfl, hc, q2, o0, o2⟩
  clear hat
  rcases hc with ⟨rfl, q1⟩ | ⟨rfl, F', x', hcut, q1⟩
  · have Q1 := Lib.hid q1
    have Q2 := Lib.hid q2
    clear q1 q2
    go_wp2_with fail
    go_ret
    exact ⟨.inl ⟨rfl, Q1.out⟩, Q2.out⟩
  · have Q1 := Lib.hid q1
    have Q2 := Lib.hid q2
    have HCUT := Lib.hid hcut
    have c0 := o0.cell 0
    have c2 := o2.cell 0
    have cL := BlkIs.cell q1.2.1 0
    have hLlt := q1.ltL
    have hA : Below w'.heap.size w' w'.drew := (Below.refl _ w').drew
    have hDD := (q1.below hA).1
    have hcat : ¬ 9223372036854775807 < (fileN nm j).size + 4 := by omega
    have HDD := Lib.hid hDD
    clear q1 q2 hcut hDD hsz hsp
    go_wp2_with fail
    go_region_held3 (fun X => X.cell? ⟨W.heap.size, 0, none⟩ = some (.pointer (some ⟨L, 0, none⟩)) ∧ X.cell? ⟨w1.heap.size, 0, none⟩ = some (.string (fileN nm j)) ∧ X.cell? ⟨L, 0, none⟩ = some (.pointer (some ⟨Dk, 0, none⟩)))
      (first
        | go_keep
        | exact ⟨(hb9.cell (p := ⟨W.heap.size, 0, none⟩) o0.lt).trans c0, (hb9.cell (p := ⟨w1.heap.size, 0, none⟩) o2.lt).trans c2, (hb9.cell (p := ⟨L, 0, none⟩) hLlt).trans cL⟩)
      (first
        | (go_at_call 52; refine (delete_down _ N _ Dk _ _ _ rm _ _ HDD.out).mono ?_; rintro e w9 ⟨rfl, hD9, hb9⟩))
    have hB9 : Below w'.heap.size w' w9 := hA.trans hb9
    have HL9 := Lib.hid (Q1.out.below hB9)
    have HT9 := Lib.hid (Q2.out.trans (Tn.of_below hB9))
    clear hD9
    go_wp2_with fail
    go_ret
    exact ⟨.inr ⟨rfl, F', x', HCUT.out, HL9.out.more (fun i hi => hi.elim .inl (fun hi => .inr ⟨hi.1, Nat.lt_of_lt_of_le hi.2 hB9.size⟩)) (Nat.le_refl _) (newFt_not h.2.2.2.1 hlL) (newFt_not h.2.2.2.2 hlG)⟩, HT9.out⟩
end Go.Proofs.YtfjmplkncopffaaGreatDoor
/- The names of a log's segments, rising. Conditions: as stated at each. -/
namespace Go.Proofs.YtfjmplkncopffaaGreatDoor
open Go.RowKit Go.Shelf Go Go.Maps
theorem byte_lt {a b : Nat} (ha : a < 10) (hb : b < 10) (h : a < b) : UInt8.ofNat (48 + a) < UInt8.ofNat (48 + b) := by
  rw [UInt8.lt_iff_toNat_lt]
  simp
  omega
theorem lex_step {P a b da db ra rb : Nat} (ha : a = da * P + ra) (_ : ra < P) (hb : b = db * P + rb) (hab : a ≤ b) (hrb : rb < P := by exact Nat.mod_lt _ (by omega)) : da < db ∨ (da = db ∧ ra ≤ rb) := by
  rcases Nat.lt_trichotomy da db with h | h | h
  · exact .inl h
  · subst h
    exact .inr ⟨rfl, by omega⟩
  · have h1 : (db + 1) * P ≤ da * P := Nat.mul_le_mul_right P h
    rw [Nat.add_mul] at h1
    omega
theorem digs_le {j k : Nat} (h : j < k) (hk : k ≤ 999999) : digs j ≤ digs k := by
  have m5 : ∀ n i, n / 10 ^ i % 10 < 10 := fun n i => Nat.mod_lt _ (by omega)
  have p5 : (10 : Nat) ^ 5 = 100000 := rfl
  have p4 : (10 : Nat) ^ 4 = 10000 := rfl
  have p3 : (10 : Nat) ^ 3 = 1000 := rfl
  have p2 : (10 : Nat) ^ 2 = 100 := rfl
  have p1 : (10 : Nat) ^ 1 = 10 := rfl
  have p0 : (10 : Nat) ^ 0 = 1 := rfl
  have e5 : ∀ n, n ≤ 999999 → n = (n / 10 ^ 5 % 10) * 100000 + n % 100000 := fun n hn => by rw [p5]; omega
  have e4 : ∀ n, n % 100000 = (n / 10 ^ 4 % 10) * 10000 + n % 10000 := fun n => by rw [p4]; omega
  have e3 : ∀ n, n % 10000 = (n / 10 ^ 3 % 10) * 1000 + n % 1000 := fun n => by rw [p3]; omega
  have e2 : ∀ n, n % 1000 = (n / 10 ^ 2 % 10) * 100 + n % 100 := fun n => by rw [p2]; omega
  have e1 : ∀ n, n % 100 = (n / 10 ^ 1 % 10) * 10 + n % 10 := fun n => by rw [p1]; omega
  have e0 : ∀ n, n % 10 = (n / 10 ^ 0 % 10) * 1 + n % 1 := fun n => by rw [p0]; omega
  have step : ∀ (i : Nat) (a b : List UInt8), (j / 10 ^ i % 10 < k / 10 ^ i % 10 ∨ (j / 10 ^ i % 10 = k / 10 ^ i % 10 ∧ a ≤ b)) → (UInt8.ofNat (48 + j / 10 ^ i % 10) :: a) ≤ (UInt8.ofNat (48 + k / 10 ^ i % 10) :: b) := fun i a b h => by
    rw [List.cons_le_cons_iff]
    rcases h with h | ⟨h, h2⟩
    · exact .inl (byte_lt (m5 _ _) (m5 _ _) h)
    · exact .inr ⟨by rw [h], h2⟩
  show (UInt8.ofNat (48 + j / 10 ^ 5 % 10) :: UInt8.ofNat (48 + j / 10 ^ 4 % 10) :: UInt8.ofNat (48 + j / 10 ^ 3 % 10) :: UInt8.ofNat (48 + j / 10 ^ 2 % 10) :: UInt8.ofNat (48 + j / 10 ^ 1 % 10) :: UInt8.ofNat (48 + j / 10 ^ 0 % 10) :: []) ≤
    (UInt8.ofNat (48 + k / 10 ^ 5 % 10) :: UInt8.ofNat (48 + k / 10 ^ 4 % 10) :: UInt8.ofNat (48 + k / 10 ^ 3 % 10) :: UInt8.ofNat (48 + k / 10 ^ 2 % 10) :: UInt8.ofNat (48 + k / 10 ^ 1 % 10) :: UInt8.ofNat (48 + k / 10 ^ 0 % 10) :: [])
  refine step 5 _ _ ((lex_step (e5 j (by omega)) (Nat.mod_lt _ (by omega)) (e5 k hk) (Nat.le_of_lt h)).imp_right fun h => ⟨h.1, ?_⟩)
  refine step 4 _ _ ((lex_step (e4 j) (Nat.mod_lt _ (by omega)) (e4 k) h.2).imp_right fun h => ⟨h.1, ?_⟩)
  refine step 3 _ _ ((lex_step (e3 j) (Nat.mod_lt _ (by omega)) (e3 k) h.2).imp_right fun h => ⟨h.1, ?_⟩)
  refine step 2 _ _ ((lex_step (e2 j) (Nat.mod_lt _ (by omega)) (e2 k) h.2).imp_right fun h => ⟨h.1, ?_⟩)
  refine step 1 _ _ ((lex_step (e1 j) (Nat.mod_lt _ (by omega)) (e1 k) h.2).imp_right fun h => ⟨h.1, ?_⟩)
  exact step 0 _ _ ((lex_step (e0 j) (Nat.mod_lt _ (by omega)) (e0 k) h.2).imp_right fun h => ⟨h.1, List.nil_le _⟩)
theorem fileN_data (nm : ByteArray) (k : Nat) : (fileN nm k).data.toList = (nm.data.toList ++ [46]) ++ digs k := by
  unfold fileN
  simp [str]
theorem fileN_le {nm : ByteArray} {j k : Nat} (h : j < k) (hk : k ≤ 999999) : (fileN nm j).data.toList ≤ (fileN nm k).data.toList := by
  rw [fileN_data, fileN_data]
  exact List.append_left_le (digs_le h hk)
/-- the segments' files. -/
def segNames (nm : ByteArray) (m : Nat) : List ByteArray := (List.range m).map fun j => fileN nm (j + 1)
end Go.Proofs.YtfjmplkncopffaaGreatDoor
