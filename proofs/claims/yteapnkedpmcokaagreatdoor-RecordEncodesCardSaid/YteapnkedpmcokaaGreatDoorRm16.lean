/- EnRead. Conditions: as stated at each. -/
import Derived.Test.YteapnkedpmcokaaGreatDoorRm06
import Derived.Lib.ParseIntBTie
/- The program's reading of messages as plain lists: cut is Take, and what is read one part after the other is what Decode asks. Conditions: none. -/
namespace Go.Proofs.YteapnkedpmcokaaGreatDoor
set_option maxRecDepth 100000
namespace En
open Go.Proofs.YteapnkedpmcokaaGreatDoor.Pa
theorem atoi_dec {n : Nat} (h : n < 9223372036854775808) : Lib.atoiAll (dec n) = .ok (n : Int) := by
  rw [← Lib.parseIntB_64]
  exact Mb.parse_dec h
theorem ahead_of {b p r : L} (h : b = partS p ++ r) : Pa.ahead 58 b = dec p.length ∧ Pa.behind 58 b = p ++ 44 :: r := by
  rw [h]
  exact ahead_part p r
/-- where the length is none. -/
theorem cut_bad {b : L} (h : ∀ v, Lib.atoiAll (Pa.ahead 58 b) ≠ .ok v) : takeS b = none := by
  cases ht : takeS b with
  | none => rfl
  | some q =>
    obtain ⟨p, r⟩ := q
    obtain ⟨e, hl⟩ := take_iff.1 ht
    exact absurd (by rw [(ahead_of e).1]; exact atoi_dec (by omega)) (h p.length)
theorem cut_val {b p r : L} {v : Int} (h : Lib.atoiAll (Pa.ahead 58 b) = .ok v) (ht : takeS b = some (p, r)) : v = p.length ∧ b = partS p ++ r ∧ p.length ≤ 1000000 ∧ Pa.behind 58 b = p ++ 44 :: r := by
  obtain ⟨e, hl⟩ := take_iff.1 ht
  have h2 : Lib.atoiAll (Pa.ahead 58 b) = .ok (p.length : Int) := by rw [(ahead_of e).1]; exact atoi_dec (by omega)
  rw [h] at h2
  injection h2 with h2
  exact ⟨h2, e, hl, (ahead_of e).2⟩
/-- where it is out of what may be. -/
theorem cut_out {b : L} {v : Int} (h : Lib.atoiAll (Pa.ahead 58 b) = .ok v) (hv : v < 0 ∨ v > 1000000 ∨ v > (Pa.behind 58 b).length) : takeS b = none := by
  cases ht : takeS b with
  | none => rfl
  | some q =>
    obtain ⟨p, r⟩ := q
    obtain ⟨e, _, hl, hb⟩ := cut_val h ht
    rw [hb, List.length_append, List.length_cons] at hv
    omega
/-- where what Put writes of it isn't there. -/
theorem cut_else {b : L} {v : Int} (h : Lib.atoiAll (Pa.ahead 58 b) = .ok v) (hp : Go.Lib.hasPrefix b (partS ((Pa.behind 58 b).take v.toNat)) = false) : takeS b = none := by
  cases ht : takeS b with
  | none => rfl
  | some q =>
    obtain ⟨p, r⟩ := q
    obtain ⟨e, e2, hl, hb⟩ := cut_val h ht
    rw [hb, e, Int.toNat_natCast, List.take_left' rfl] at hp
    rw [e2] at hp
    have : Go.Lib.hasPrefix (partS p ++ r) (partS p) = true := List.isPrefixOf_iff_prefix.2 (List.prefix_append _ _)
    rw [this] at hp
    cases hp
theorem cut_yes {b : L} {v : Int} (h0 : 0 ≤ v) (h1 : v ≤ 1000000) (hp : Go.Lib.hasPrefix b (partS ((Pa.behind 58 b).take v.toNat)) = true) :
    takeS b = some ((Pa.behind 58 b).take v.toNat, b.drop (partS ((Pa.behind 58 b).take v.toNat)).length) := by
  obtain ⟨r, hr⟩ := List.isPrefixOf_iff_prefix.1 hp
  refine take_iff.2 ⟨?_, by rw [List.length_take]; omega⟩
  generalize (Pa.behind 58 b).take v.toNat = p at *
  rw [← hr, List.drop_left' rfl]
/-- what has been taken of b, what is left of it. -/
def Took (ps : List L) (rest b : L) : Prop := b = putS ps ++ rest ∧ ∀ p ∈ ps, p.length ≤ 1000000
theorem put_app (a b : List L) : putS (a ++ b) = putS a ++ putS b := List.flatMap_append
theorem put_one (p : L) : putS [p] = partS p := by simp [putS]
theorem Took.nil (b : L) : Took [] b b := ⟨rfl, fun _ h => by cases h⟩
theorem Took.snoc {ps : List L} {rest b p r : L} (h : Took ps rest b) (ht : takeS rest = some (p, r)) : Took (ps ++ [p]) r b := by
  obtain ⟨e, hl⟩ := take_iff.1 ht
  refine ⟨by rw [put_app, put_one, List.append_assoc, ← e]; exact h.1, fun x hx => ?_⟩
  rcases List.mem_append.1 hx with hx | hx
  · exact h.2 x hx
  · rw [List.mem_singleton.1 hx]; exact hl
theorem took_len {ps : List L} {rest b : L} (h : Took ps rest b) : rest.length ≤ b.length ∧ ∀ p ∈ ps, p.length ≤ b.length := by
  refine ⟨by rw [h.1, List.length_append]; omega, fun p hp => ?_⟩
  rw [h.1]
  have : ∀ (l : List L), p ∈ l → p.length ≤ (putS l).length := by
    intro l
    induction l with
    | nil => intro h; cases h
    | cons q l ih =>
      intro h
      rw [put_cons, List.length_append]
      rcases List.mem_cons.1 h with rfl | h
      · simp [partS]; omega
      · have := ih h; omega
  rw [List.length_append]
  have := this ps hp
  omega
theorem put_same : ∀ (ps fs : List L) (rest : L), putS fs = putS ps ++ rest → (∀ p ∈ ps, p.length ≤ 1000000) → (∀ p ∈ fs, p.length ≤ 1000000) → ∃ t, fs = ps ++ t ∧ rest = putS t
  | [], fs, rest, h, _, _ => ⟨fs, rfl, h.symm⟩
  | p :: ps, [], rest, h, _, _ => by
    have := congrArg List.length h
    have := List.length_pos_iff.2 (part_ne p)
    simp [putS] at *
    omega
  | p :: ps, f :: fs, rest, h, h1, h2 => by
    rw [put_cons, put_cons, List.append_assoc] at h
    have t1 := take_part (p := f) (putS fs) (h2 f (List.mem_cons_self ..))
    rw [h, take_part (p := p) _ (h1 p (List.mem_cons_self ..))] at t1
    injection t1 with t1
    injection t1 with e1 e2
    obtain ⟨t, i1, i2⟩ := put_same ps fs rest e2.symm (fun q hq => h1 q (List.mem_cons_of_mem _ hq)) (fun q hq => h2 q (List.mem_cons_of_mem _ hq))
    exact ⟨t, by rw [e1, i1]; rfl, i2⟩
theorem dec_at {b : L} {m : M} (h : decS b = some m) : 0 ≤ m.at_ ∧ m.at_ ≤ 9223372036854775807 := by
  unfold decS at h
  split at h
  · rw [← Option.some.inj h]; exact cand_at _
  · cases h
/-- whoever has taken parts of b has taken those of the message that b is, if it is one. -/
theorem dec_took {ps : List L} {rest b : L} {m : M} (h : Took ps rest b) (hm : decS b = some m) : okB m = true ∧ m.at_ ≤ 9223372036854775807 ∧ ∃ t, fldS m = ps ++ t ∧ rest = putS t := by
  have he := dec_some hm
  unfold encS at he
  split at he
  · next hk =>
    have ha := (dec_at hm).2
    obtain ⟨_, _, h3⟩ := fld_len hk ha
    have hb : putS (fldS m) = b := Option.some.inj he
    exact ⟨hk, ha, put_same ps (fldS m) rest (by rw [hb]; exact h.1) h.2 h3⟩
  · cases he
theorem fld_n (m : M) : (fldS m).length = 6 + m.tos.length := by simp [fldS]; omega
/-- nothing more is there, and it isn't all. -/
theorem dn_take {ps : List L} {rest b : L} (h : Took ps rest b) (ht : takeS rest = none) (hn : ps.length < 7) : decS b = none := by
  cases hd : decS b with
  | none => rfl
  | some m =>
    obtain ⟨hk, _, t, e1, e2⟩ := dec_took h hd
    obtain ⟨_, h2, _⟩ := ok_parts hk
    have hl := fld_n m
    rw [e1, List.length_append] at hl
    cases t with
    | nil => simp at hl; omega
    | cons p t =>
      have hp : p.length ≤ 1000000 := (fld_len hk (dec_at hd).2).2.2 p (by rw [e1]; simp)
      rw [e2, put_cons, take_part _ hp] at ht
      cases ht
theorem dec_num {n : Nat} {v : Int} (h : n < 9223372036854775808) (hv : Lib.parseIntB 64 (dec n) = .ok v) : v = n := by
  have := Mb.parse_dec h
  unfold dec at hv
  rw [hv] at this
  injection this
theorem dn_more {p0 p1 p2 p3 p4 : L} {to : List L} {rest b : L} {v : Int} (h : Took (p0 :: p1 :: p2 :: p3 :: p4 :: to) rest b) (hv : Lib.parseIntB 64 p4 = .ok v) (hn : (to.length : Int) ≤ v) (ht : takeS rest = none) : decS b = none := by
  cases hd : decS b with
  | none => rfl
  | some m =>
    obtain ⟨hk, _, t, e1, e2⟩ := dec_took h hd
    obtain ⟨_, h2, _⟩ := ok_parts hk
    have hl := fld_n m
    have e4 : p4 = dec m.tos.length := by
      unfold fldS at e1
      simp only [List.cons_append, List.cons.injEq] at e1
      exact e1.2.2.2.2.1.symm
    rw [e4] at hv
    have hv := dec_num (by omega) hv
    rw [e1, List.length_append] at hl
    simp only [List.length_cons] at hl
    cases t with
    | nil => simp at hl; omega
    | cons p t =>
      have hp : p.length ≤ 1000000 := (fld_len hk (dec_at hd).2).2.2 p (by rw [e1]; simp)
      rw [e2, put_cons, take_part _ hp] at ht
      cases ht
/-- a number isn't there. -/
theorem dn_num0 {p0 : L} {rest b : L} (h : Took [p0] rest b) (hv : ∀ v, Lib.parseIntB 64 p0 ≠ .ok v) : decS b = none := by
  cases hd : decS b with
  | none => rfl
  | some m =>
    obtain ⟨hk, _, t, e1, e2⟩ := dec_took h hd
    obtain ⟨_, _, _, _, _, h6, _⟩ := ok_parts hk
    unfold fldS at e1
    simp only [List.cons_append, List.nil_append, List.cons.injEq] at e1
    exact absurd (by rw [← e1.1]; exact Mb.parse_dec (by omega)) (hv m.id.toNat)
theorem dn_num3 {p0 p1 p2 p3 : L} {rest b : L} (h : Took [p0, p1, p2, p3] rest b) (hv : ∀ v, Lib.parseIntB 64 p3 ≠ .ok v) : decS b = none := by
  cases hd : decS b with
  | none => rfl
  | some m =>
    obtain ⟨hk, ha, t, e1, e2⟩ := dec_took h hd
    unfold fldS at e1
    simp only [List.cons_append, List.nil_append, List.cons.injEq] at e1
    exact absurd (by rw [← e1.2.2.2.1]; exact Mb.parse_dec (by omega)) (hv m.at_.toNat)
theorem dn_num4 {p0 p1 p2 p3 p4 : L} {rest b : L} (h : Took [p0, p1, p2, p3, p4] rest b) (hv : ∀ v, Lib.parseIntB 64 p4 ≠ .ok v) : decS b = none := by
  cases hd : decS b with
  | none => rfl
  | some m =>
    obtain ⟨hk, ha, t, e1, e2⟩ := dec_took h hd
    obtain ⟨_, h2, _⟩ := ok_parts hk
    unfold fldS at e1
    simp only [List.cons_append, List.nil_append, List.cons.injEq] at e1
    exact absurd (by rw [← e1.2.2.2.2.1]; exact Mb.parse_dec (by omega)) (hv m.tos.length)
theorem dn_cnt {p0 p1 p2 p3 p4 : L} {rest b : L} {v : Int} (h : Took [p0, p1, p2, p3, p4] rest b) (hv : Lib.parseIntB 64 p4 = .ok v) (h100 : ¬ v ≤ 100) : decS b = none := by
  cases hd : decS b with
  | none => rfl
  | some m =>
    obtain ⟨hk, ha, t, e1, e2⟩ := dec_took h hd
    obtain ⟨_, h2, _⟩ := ok_parts hk
    unfold fldS at e1
    simp only [List.cons_append, List.nil_append, List.cons.injEq] at e1
    rw [← e1.2.2.2.2.1] at hv
    have := dec_num (by omega) hv
    omega
/-- all is there: it is the message of b, if what Encode makes of it is b. -/
theorem dn_end {p0 p1 p2 p3 p4 body : L} {to : List L} {rest b : L} {i a v : Int} (h : Took (p0 :: p1 :: p2 :: p3 :: p4 :: (to ++ [body])) rest b) (hi : Lib.parseIntB 64 p0 = .ok i) (ha : Lib.parseIntB 64 p3 = .ok a) (hv : Lib.parseIntB 64 p4 = .ok v) (hn : to.length = v.toNat) :
    decS b = if encS ⟨i, p1, p2, to, a, body⟩ = some b then some ⟨i, p1, p2, to, a, body⟩ else none := by
  have hab : a ≤ 9223372036854775807 := by
    have := (Lib.parseIntB_bounds ha).2
    have e : ((2 ^ (64 - 1) : Nat) : Int) = 9223372036854775808 := by decide
    rw [e] at this
    omega
  split
  · next he => exact dec_enc (m := ⟨i, p1, p2, to, a, body⟩) hab he
  · next he =>
    cases hd : decS b with
    | none => rfl
    | some m =>
      exfalso
      obtain ⟨hk, h1, t, e1, e2⟩ := dec_took h hd
      obtain ⟨_, h2, h3, _, _, h6, _⟩ := ok_parts hk
      obtain ⟨mi, mc, mf, mt, ma, mb⟩ := m
      unfold fldS at e1
      simp only [List.cons_append, List.cons.injEq, List.append_assoc] at e1 h1 h2 h3 h6
      obtain ⟨rfl, rfl, rfl, rfl, rfl, e1⟩ := e1
      have w0 := dec_num (by omega) hi
      have w3 := dec_num (by omega) ha
      have w4 := dec_num (by omega) hv
      have hl : to.length = mt.length := by omega
      obtain ⟨rfl, e5⟩ := List.append_inj e1 hl.symm
      simp only [List.nil_append, List.cons.injEq] at e5
      have hmi : i = mi := by omega
      have hma : a = ma := by omega
      rw [hmi, hma, ← e5.1] at he
      exact he (dec_some hd)
end En
end Go.Proofs.YteapnkedpmcokaaGreatDoor
