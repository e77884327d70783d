/- The law's examples of seals. Conditions: as stated. -/
import Derived.Test.YtlbmieeimnjncaaDoorSeHolds
import Derived.Test.YtlbmieeimnjncaaDoorSeChain
namespace Go.Proofs.YtlbmieeimnjncaaDoor
set_option maxRecDepth 100000
open Go.RowKit Go
def p7 : List UInt8 := 7 :: List.replicate 31 0
def s3 : Sl := ⟨3, (0 : Nat), rootS [], p7⟩
theorem p7_length : p7.length = 32 := by simp [p7]
theorem s3_ok : s3.ok := ⟨rootS_length Sms.nil, p7_length⟩
theorem s3_hold : holdsS s3 [] = true := by
  unfold holdsS
  rw [decide_eq_true (by constructor <;> (show _ ≤ _) <;> decide), Bool.true_and]
  exact eqS_self _
theorem s3_0 : (sc s3)[0]? = some (.int .i64 3) := rfl
theorem s3_34 : (sc s3)[34]? = some (.int .u8 7) := by
  have h1 : ([Value.int .i64 3, Value.int .i64 ((0 : Nat) : Int)] ++ bv (rootS [])).length = 34 := by simp [bv_length, rootS_length Sms.nil]
  have e : sc s3 = ([Value.int .i64 3, Value.int .i64 ((0 : Nat) : Int)] ++ bv (rootS [])) ++ bv p7 := by
    unfold sc s3
    rw [List.append_assoc]
  rw [e, List.getElem?_append_right (by omega), h1]
  rfl
theorem build_p7 (w : World) : (Instr.build 22 #[(0, .int .u8 7)]).run Tryd.prog w = .ok (.agg (bv p7).toArray) w := by kernel_rfl
theorem build_z32 (w : World) : (Instr.build 22 #[]).run Tryd.prog w = .ok (.agg (bv (List.replicate 32 0)).toArray) w := by kernel_rfl
end Go.Proofs.YtlbmieeimnjncaaDoor
