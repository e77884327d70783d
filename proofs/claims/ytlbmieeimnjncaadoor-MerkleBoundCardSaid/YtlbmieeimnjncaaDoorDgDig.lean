/- A digit's worth; the document's digits. Conditions: as stated at each. -/
import Derived.Test.YtlbmieeimnjncaaDoorDgSum
namespace Go.Proofs.YtlbmieeimnjncaaDoor
set_option maxRecDepth 100000
open Go.RowKit Go
/-- a digit's worth; 16: none. -/
def hexv (c : UInt8) : Nat := if 48 ≤ c.toNat ∧ c.toNat ≤ 57 then c.toNat - 48 else if 97 ≤ c.toNat ∧ c.toNat ≤ 102 then c.toNat - 97 + 10 else 16
theorem hexv_le (c : UInt8) : hexv c ≤ 16 := by
  unfold hexv
  split
  · omega
  · split <;> omega
set_option maxHeartbeats 400000 in
theorem digit_any (c : UInt8) (w : World) : Calls Tryd.prog 30 #[.int .u8 (c.toNat : Int)] w fun e w' => e = .returned (.int .u32 (hexv c : Nat)) ∧ w = w' := by
  have hlt := c.toNat_lt
  have HV := Lib.hid (show hexv c = if 48 ≤ c.toNat ∧ c.toNat ≤ 57 then c.toNat - 48 else if 97 ≤ c.toNat ∧ c.toNat ≤ 102 then c.toNat - 97 + 10 else 16 from rfl)
  generalize c.toNat = n at *
  by_cases h1 : 48 ≤ n
  · by_cases h2 : n ≤ 57
    · go_enter Tryd.func30, Tryd.ntmps30
      go_wp2_with fail
      go_ret
      exact ⟨ret_u (by rw [HV.out, if_pos ⟨h1, h2⟩]; omega), rfl⟩
    · by_cases h3 : 97 ≤ n
      · by_cases h4 : n ≤ 102
        · go_enter Tryd.func30, Tryd.ntmps30
          go_wp2_with fail
          go_ret
          exact ⟨ret_u (by rw [HV.out, if_neg (by omega), if_pos ⟨h3, h4⟩]; omega), rfl⟩
        · go_enter Tryd.func30, Tryd.ntmps30
          go_wp2_with fail
          go_ret
          exact ⟨ret_u (by rw [HV.out, if_neg (by omega), if_neg (by omega)]; rfl), rfl⟩
      · go_enter Tryd.func30, Tryd.ntmps30
        go_wp2_with fail
        go_ret
        exact ⟨ret_u (by rw [HV.out, if_neg (by omega), if_neg (by omega)]; rfl), rfl⟩
  · have h3 : ¬ 97 ≤ n := by omega
    go_enter Tryd.func30, Tryd.ntmps30
    go_wp2_with fail
    go_ret
    exact ⟨ret_u (by rw [HV.out, if_neg (by omega), if_neg (by omega)]; rfl), rfl⟩
theorem run_at (s : ByteArray) (l : List UInt8) (hs : s.data.toList = l) (k : Nat) (hk : k < l.length) (w : World) : (Instr.index 9 (.string s) (.int .i64 k)).run Tryd.prog w = .ok (.int .u8 ((l.getD k 0).toNat : Int)) w := by
  subst hs
  have h : k < s.size := by simpa using hk
  have e : s[k]? = some (s.data.toList.getD k 0) := by
    rw [List.getD_eq_getElem?_getD]
    simp [h]
    rfl
  simp [Instr.index, asIntOf, Sem.run_bind, run_underlying Tryd.underlying9, e]
end Go.Proofs.YtlbmieeimnjncaaDoor
