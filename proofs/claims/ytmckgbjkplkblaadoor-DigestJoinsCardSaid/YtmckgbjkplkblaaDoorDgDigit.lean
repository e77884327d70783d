/- Texts as sums: the plain functions, the digits' contracts. Conditions: as stated at each. -/
import Derived.Test.YtmckgbjkplkblaaDoorDgShow
import Derived.Lib.Bytealg
namespace Go.Proofs.YtmckgbjkplkblaaDoor
open Go.RowKit Go
/-- a digit's worth; 16: none. -/
def hexv (c : UInt8) : Nat := if 48 ≤ c.toNat ∧ c.toNat ≤ 57 then c.toNat - 48 else if 97 ≤ c.toNat ∧ c.toNat ≤ 102 then c.toNat - 97 + 10 else 16
theorem hexv_le (c : UInt8) : hexv c ≤ 16 := by
  unfold hexv
  split
  · omega
  · split <;> omega
def hexi (c : UInt8) : Int := if hexv c < 16 then (hexv c : Int) else -1
theorem index_all : ∀ n, n < 256 → Lib.indexByte dig16 (UInt8.ofNat n) = hexi (UInt8.ofNat n) := by decide +kernel
theorem index_is (c : UInt8) : Lib.indexByte dig16 c = hexi c := by
  have := index_all c.toNat c.toNat_lt
  rwa [UInt8.ofNat_toNat] at this
set_option maxHeartbeats 400000 in
theorem digit_any (c : UInt8) (w : World) : Calls Tryd.prog 20 #[.int .u8 (c.toNat : Int)] w fun e w' => e = .returned (.int .u32 (hexv c : Nat)) ∧ w = w' := by
  have hlt := c.toNat_lt
  have HV := Lib.hid (show hexv c = if 48 ≤ c.toNat ∧ c.toNat ≤ 57 then c.toNat - 48 else if 97 ≤ c.toNat ∧ c.toNat ≤ 102 then c.toNat - 97 + 10 else 16 from rfl)
  generalize c.toNat = n at *
  by_cases h1 : 48 ≤ n
  · by_cases h2 : n ≤ 57
    · go_enter Tryd.func20, Tryd.ntmps20
      go_wp2_with fail
      go_ret
      exact ⟨ret_u (by rw [HV.out, if_pos ⟨h1, h2⟩]; omega), rfl⟩
    · by_cases h3 : 97 ≤ n
      · by_cases h4 : n ≤ 102
        · go_enter Tryd.func20, Tryd.ntmps20
          go_wp2_with fail
          go_ret
          exact ⟨ret_u (by rw [HV.out, if_neg (by omega), if_pos ⟨h3, h4⟩]; omega), rfl⟩
        · go_enter Tryd.func20, Tryd.ntmps20
          go_wp2_with fail
          go_ret
          exact ⟨ret_u (by rw [HV.out, if_neg (by omega), if_neg (by omega)]; rfl), rfl⟩
      · go_enter Tryd.func20, Tryd.ntmps20
        go_wp2_with fail
        go_ret
        exact ⟨ret_u (by rw [HV.out, if_neg (by omega), if_neg (by omega)]; rfl), rfl⟩
  · have h3 : ¬ 97 ≤ n := by omega
    go_enter Tryd.func20, Tryd.ntmps20
    go_wp2_with fail
    go_ret
    exact ⟨ret_u (by rw [HV.out, if_neg (by omega), if_neg (by omega)]; rfl), rfl⟩
theorem ret_i {a b : Int} (h : a = b) : Ending.returned (.int .i64 a) = .returned (.int .i64 b) := by rw [h]
set_option maxRecDepth 100000 in
set_option maxHeartbeats 800000 in
theorem index2_any (c : UInt8) (w : World) : Calls Tryd.prog 24 #[.string ⟨#[48, 49, 50, 51, 52, 53, 54, 55, 56, 57, 97, 98, 99, 100, 101, 102]⟩, .int .u8 (c.toNat : Int)] w fun e w' => e = .returned (.int .i64 (hexi c)) ∧ w = w' := by
  have HI := Lib.hid (index_is c)
  go_enter Tryd.func24, Tryd.ntmps24
  go_wp2_with fail
  rw [run_callFunc_extern Tryd.func27 (by kernel_rfl) (by kernel_rfl) (by kernel_rfl) (e := Extern.BytealgIndexByte.indexByte) (by kernel_rfl), Lib.run_indexByteString]
  simp only [Result.andThen]
  rw [Oper.upon_value]
  go_wp2_with fail
  go_ret
  exact ⟨ret_i (by rw [← HI.out]; simp [dig16]), rfl⟩
set_option maxHeartbeats 800000 in
theorem index_any (c : UInt8) (w : World) : Calls Tryd.prog 19 #[.string ⟨#[48, 49, 50, 51, 52, 53, 54, 55, 56, 57, 97, 98, 99, 100, 101, 102]⟩, .int .u8 (c.toNat : Int)] w fun e w' => e = .returned (.int .i64 (hexi c)) ∧ w = w' := by
  go_enter Tryd.func19, Tryd.ntmps19
  go_wp2_with (go_at_call 24; refine (index2_any c _).mono ?_; rintro e w' ⟨rfl, rfl⟩)
  go_ret
  exact ⟨rfl, rfl⟩
end Go.Proofs.YtmckgbjkplkblaaDoor
