/- mime.read. Conditions: as stated at each. -/
import Derived.Test.YtamekflgidfnfaaGreatDoorMiEnc
namespace Go.Proofs.YtamekflgidfnfaaGreatDoor
set_option maxRecDepth 100000
namespace Mi
open Go.RowKit Go Go.Proofs.YtamekflgidfnfaaGreatDoor.Pa
attribute [local go_sem] Oper.semAt_some
theorem htop : ∀ args w, (callFunc 47 args).run Tryz.prog w = .ok (.enter 47 args) w := enters_of Tryz.func47 (by kernel_rfl) rfl
theorem henv : ∀ args w, (callFunc 48 args).run Tryz.prog w = .ok (.enter 48 args) w := enters_of Tryz.func48 (by kernel_rfl) rfl
theorem henc : ∀ args w, (callFunc 51 args).run Tryz.prog w = .ok (.enter 51 args) w := enters_of Tryz.func51 (by kernel_rfl) rfl
theorem store_new {W : World} {g : Nat} {t : TypeId} {v : Value} (h : BlkIs W g t #[v]) (u : Value) (hu : u.oneCell' = true) : (store ⟨g, 0, none⟩ u).run Tryz.prog W = .ok () (W.setCell ⟨g, 0, none⟩ u) := by
  have h1 := h.cell 0
  have h2 := h.froz 0
  have h3 : W.cell? ⟨g, 0, none⟩ = some v := h1
  rw [run_store _ _ _ _ _ hu]
  go_simp
theorem rd_w8 (w : World) (x : Value) : BlkIs (((((((w.alloc (.cells #[.string ⟨#[]⟩, .slice none 0 0, .int .i64 0] 34)).alloc (.cells #[.string ⟨#[]⟩, .slice none 0 0, .int .i64 0] 34)).alloc (.cells #[.string ⟨#[]⟩] 9)).alloc (.cells #[.slice none 0 0] 22)).alloc (.cells #[x] 22)).alloc (.cells #[lineV (w.heap.size + 1 + 1 + 1 + 1)] 85)).alloc (.cells #[.func (.func 47) #[] #[.pointer (some ⟨w.heap.size + 1 + 1 + 1 + 1 + 1, 0, none⟩), .pointer (some ⟨w.heap.size + 1 + 1, 0, none⟩)], .func (.func 48) #[] #[.pointer (some ⟨w.heap.size + 1 + 1 + 1 + 1 + 1, 0, none⟩), .pointer (some ⟨w.heap.size + 1 + 1, 0, none⟩), .pointer (some ⟨w.heap.size + 1, 0, none⟩), .pointer (some ⟨w.heap.size + 1 + 1 + 1 + 1, 0, none⟩)], .func (.func 51) #[] #[.pointer (some ⟨w.heap.size + 1 + 1 + 1 + 1 + 1, 0, none⟩), .pointer (some ⟨w.heap.size + 1 + 1, 0, none⟩), .pointer (some ⟨w.heap.size + 1 + 1 + 1 + 1, 0, none⟩), .pointer (some ⟨w.heap.size + 1 + 1 + 1, 0, none⟩)]] 1)) (w.heap.size) 34 #[.string ⟨#[]⟩, .slice none 0 0, .int .i64 0] ∧ BlkIs (((((((w.alloc (.cells #[.string ⟨#[]⟩, .slice none 0 0, .int .i64 0] 34)).alloc (.cells #[.string ⟨#[]⟩, .slice none 0 0, .int .i64 0] 34)).alloc (.cells #[.string ⟨#[]⟩] 9)).alloc (.cells #[.slice none 0 0] 22)).alloc (.cells #[x] 22)).alloc (.cells #[lineV (w.heap.size + 1 + 1 + 1 + 1)] 85)).alloc (.cells #[.func (.func 47) #[] #[.pointer (some ⟨w.heap.size + 1 + 1 + 1 + 1 + 1, 0, none⟩), .pointer (some ⟨w.heap.size + 1 + 1, 0, none⟩)], .func (.func 48) #[] #[.pointer (some ⟨w.heap.size + 1 + 1 + 1 + 1 + 1, 0, none⟩), .pointer (some ⟨w.heap.size + 1 + 1, 0, none⟩), .pointer (some ⟨w.heap.size + 1, 0, none⟩), .pointer (some ⟨w.heap.size + 1 + 1 + 1 + 1, 0, none⟩)], .func (.func 51) #[] #[.pointer (some ⟨w.heap.size + 1 + 1 + 1 + 1 + 1, 0, none⟩), .pointer (some ⟨w.heap.size + 1 + 1, 0, none⟩), .pointer (some ⟨w.heap.size + 1 + 1 + 1 + 1, 0, none⟩), .pointer (some ⟨w.heap.size + 1 + 1 + 1, 0, none⟩)]] 1)) (w.heap.size + 1) 34 #[.string ⟨#[]⟩, .slice none 0 0, .int .i64 0] ∧ BlkIs (((((((w.alloc (.cells #[.string ⟨#[]⟩, .slice none 0 0, .int .i64 0] 34)).alloc (.cells #[.string ⟨#[]⟩, .slice none 0 0, .int .i64 0] 34)).alloc (.cells #[.string ⟨#[]⟩] 9)).alloc (.cells #[.slice none 0 0] 22)).alloc (.cells #[x] 22)).alloc (.cells #[lineV (w.heap.size + 1 + 1 + 1 + 1)] 85)).alloc (.cells #[.func (.func 47) #[] #[.pointer (some ⟨w.heap.size + 1 + 1 + 1 + 1 + 1, 0, none⟩), .pointer (some ⟨w.heap.size + 1 + 1, 0, none⟩)], .func (.func 48) #[] #[.pointer (some ⟨w.heap.size + 1 + 1 + 1 + 1 + 1, 0, none⟩), .pointer (some ⟨w.heap.size + 1 + 1, 0, none⟩), .pointer (some ⟨w.heap.size + 1, 0, none⟩), .pointer (some ⟨w.heap.size + 1 + 1 + 1 + 1, 0, none⟩)], .func (.func 51) #[] #[.pointer (some ⟨w.heap.size + 1 + 1 + 1 + 1 + 1, 0, none⟩), .pointer (some ⟨w.heap.size + 1 + 1, 0, none⟩), .pointer (some ⟨w.heap.size + 1 + 1 + 1 + 1, 0, none⟩), .pointer (some ⟨w.heap.size + 1 + 1 + 1, 0, none⟩)]] 1)) (w.heap.size + 1 + 1) 9 #[.string ⟨#[]⟩] ∧ BlkIs (((((((w.alloc (.cells #[.string ⟨#[]⟩, .slice none 0 0, .int .i64 0] 34)).alloc (.cells #[.string ⟨#[]⟩, .slice none 0 0, .int .i64 0] 34)).alloc (.cells #[.string ⟨#[]⟩] 9)).alloc (.cells #[.slice none 0 0] 22)).alloc (.cells #[x] 22)).alloc (.cells #[lineV (w.heap.size + 1 + 1 + 1 + 1)] 85)).alloc (.cells #[.func (.func 47) #[] #[.pointer (some ⟨w.heap.size + 1 + 1 + 1 + 1 + 1, 0, none⟩), .pointer (some ⟨w.heap.size + 1 + 1, 0, none⟩)], .func (.func 48) #[] #[.pointer (some ⟨w.heap.size + 1 + 1 + 1 + 1 + 1, 0, none⟩), .pointer (some ⟨w.heap.size + 1 + 1, 0, none⟩), .pointer (some ⟨w.heap.size + 1, 0, none⟩), .pointer (some ⟨w.heap.size + 1 + 1 + 1 + 1, 0, none⟩)], .func (.func 51) #[] #[.pointer (some ⟨w.heap.size + 1 + 1 + 1 + 1 + 1, 0, none⟩), .pointer (some ⟨w.heap.size + 1 + 1, 0, none⟩), .pointer (some ⟨w.heap.size + 1 + 1 + 1 + 1, 0, none⟩), .pointer (some ⟨w.heap.size + 1 + 1 + 1, 0, none⟩)]] 1)) (w.heap.size + 1 + 1 + 1) 22 #[.slice none 0 0] ∧ BlkIs (((((((w.alloc (.cells #[.string ⟨#[]⟩, .slice none 0 0, .int .i64 0] 34)).alloc (.cells #[.string ⟨#[]⟩, .slice none 0 0, .int .i64 0] 34)).alloc (.cells #[.string ⟨#[]⟩] 9)).alloc (.cells #[.slice none 0 0] 22)).alloc (.cells #[x] 22)).alloc (.cells #[lineV (w.heap.size + 1 + 1 + 1 + 1)] 85)).alloc (.cells #[.func (.func 47) #[] #[.pointer (some ⟨w.heap.size + 1 + 1 + 1 + 1 + 1, 0, none⟩), .pointer (some ⟨w.heap.size + 1 + 1, 0, none⟩)], .func (.func 48) #[] #[.pointer (some ⟨w.heap.size + 1 + 1 + 1 + 1 + 1, 0, none⟩), .pointer (some ⟨w.heap.size + 1 + 1, 0, none⟩), .pointer (some ⟨w.heap.size + 1, 0, none⟩), .pointer (some ⟨w.heap.size + 1 + 1 + 1 + 1, 0, none⟩)], .func (.func 51) #[] #[.pointer (some ⟨w.heap.size + 1 + 1 + 1 + 1 + 1, 0, none⟩), .pointer (some ⟨w.heap.size + 1 + 1, 0, none⟩), .pointer (some ⟨w.heap.size + 1 + 1 + 1 + 1, 0, none⟩), .pointer (some ⟨w.heap.size + 1 + 1 + 1, 0, none⟩)]] 1)) (w.heap.size + 1 + 1 + 1 + 1) 22 #[x] ∧ BlkIs (((((((w.alloc (.cells #[.string ⟨#[]⟩, .slice none 0 0, .int .i64 0] 34)).alloc (.cells #[.string ⟨#[]⟩, .slice none 0 0, .int .i64 0] 34)).alloc (.cells #[.string ⟨#[]⟩] 9)).alloc (.cells #[.slice none 0 0] 22)).alloc (.cells #[x] 22)).alloc (.cells #[lineV (w.heap.size + 1 + 1 + 1 + 1)] 85)).alloc (.cells #[.func (.func 47) #[] #[.pointer (some ⟨w.heap.size + 1 + 1 + 1 + 1 + 1, 0, none⟩), .pointer (some ⟨w.heap.size + 1 + 1, 0, none⟩)], .func (.func 48) #[] #[.pointer (some ⟨w.heap.size + 1 + 1 + 1 + 1 + 1, 0, none⟩), .pointer (some ⟨w.heap.size + 1 + 1, 0, none⟩), .pointer (some ⟨w.heap.size + 1, 0, none⟩), .pointer (some ⟨w.heap.size + 1 + 1 + 1 + 1, 0, none⟩)], .func (.func 51) #[] #[.pointer (some ⟨w.heap.size + 1 + 1 + 1 + 1 + 1, 0, none⟩), .pointer (some ⟨w.heap.size + 1 + 1, 0, none⟩), .pointer (some ⟨w.heap.size + 1 + 1 + 1 + 1, 0, none⟩), .pointer (some ⟨w.heap.size + 1 + 1 + 1, 0, none⟩)]] 1)) (w.heap.size + 1 + 1 + 1 + 1 + 1) 85 #[lineV (w.heap.size + 1 + 1 + 1 + 1)] ∧ BlkIs (((((((w.alloc (.cells #[.string ⟨#[]⟩, .slice none 0 0, .int .i64 0] 34)).alloc (.cells #[.string ⟨#[]⟩, .slice none 0 0, .int .i64 0] 34)).alloc (.cells #[.string ⟨#[]⟩] 9)).alloc (.cells #[.slice none 0 0] 22)).alloc (.cells #[x] 22)).alloc (.cells #[lineV (w.heap.size + 1 + 1 + 1 + 1)] 85)).alloc (.cells #[.func (.func 47) #[] #[.pointer (some ⟨w.heap.size + 1 + 1 + 1 + 1 + 1, 0, none⟩), .pointer (some ⟨w.heap.size + 1 + 1, 0, none⟩)], .func (.func 48) #[] #[.pointer (some ⟨w.heap.size + 1 + 1 + 1 + 1 + 1, 0, none⟩), .pointer (some ⟨w.heap.size + 1 + 1, 0, none⟩), .pointer (some ⟨w.heap.size + 1, 0, none⟩), .pointer (some ⟨w.heap.size + 1 + 1 + 1 + 1, 0, none⟩)], .func (.func 51) #[] #[.pointer (some ⟨w.heap.size + 1 + 1 + 1 + 1 + 1, 0, none⟩), .pointer (some ⟨w.heap.size + 1 + 1, 0, none⟩), .pointer (some ⟨w.heap.size + 1 + 1 + 1 + 1, 0, none⟩), .pointer (some ⟨w.heap.size + 1 + 1 + 1, 0, none⟩)]] 1)) (w.heap.size + 1 + 1 + 1 + 1 + 1 + 1) 1 #[.func (.func 47) #[] #[.pointer (some ⟨w.heap.size + 1 + 1 + 1 + 1 + 1, 0, none⟩), .pointer (some ⟨w.heap.size + 1 + 1, 0, none⟩)], .func (.func 48) #[] #[.pointer (some ⟨w.heap.size + 1 + 1 + 1 + 1 + 1, 0, none⟩), .pointer (some ⟨w.heap.size + 1 + 1, 0, none⟩), .pointer (some ⟨w.heap.size + 1, 0, none⟩), .pointer (some ⟨w.heap.size + 1 + 1 + 1 + 1, 0, none⟩)], .func (.func 51) #[] #[.pointer (some ⟨w.heap.size + 1 + 1 + 1 + 1 + 1, 0, none⟩), .pointer (some ⟨w.heap.size + 1 + 1, 0, none⟩), .pointer (some ⟨w.heap.size + 1 + 1 + 1 + 1, 0, none⟩), .pointer (some ⟨w.heap.size + 1 + 1 + 1, 0, none⟩)]] ∧ Below w.heap.size w (((((((w.alloc (.cells #[.string ⟨#[]⟩, .slice none 0 0, .int .i64 0] 34)).alloc (.cells #[.string ⟨#[]⟩, .slice none 0 0, .int .i64 0] 34)).alloc (.cells #[.string ⟨#[]⟩] 9)).alloc (.cells #[.slice none 0 0] 22)).alloc (.cells #[x] 22)).alloc (.cells #[lineV (w.heap.size + 1 + 1 + 1 + 1)] 85)).alloc (.cells #[.func (.func 47) #[] #[.pointer (some ⟨w.heap.size + 1 + 1 + 1 + 1 + 1, 0, none⟩), .pointer (some ⟨w.heap.size + 1 + 1, 0, none⟩)], .func (.func 48) #[] #[.pointer (some ⟨w.heap.size + 1 + 1 + 1 + 1 + 1, 0, none⟩), .pointer (some ⟨w.heap.size + 1 + 1, 0, none⟩), .pointer (some ⟨w.heap.size + 1, 0, none⟩), .pointer (some ⟨w.heap.size + 1 + 1 + 1 + 1, 0, none⟩)], .func (.func 51) #[] #[.pointer (some ⟨w.heap.size + 1 + 1 + 1 + 1 + 1, 0, none⟩), .pointer (some ⟨w.heap.size + 1 + 1, 0, none⟩), .pointer (some ⟨w.heap.size + 1 + 1 + 1 + 1, 0, none⟩), .pointer (some ⟨w.heap.size + 1 + 1 + 1, 0, none⟩)]] 1)) ∧ (((((((w.alloc (.cells #[.string ⟨#[]⟩, .slice none 0 0, .int .i64 0] 34)).alloc (.cells #[.string ⟨#[]⟩, .slice none 0 0, .int .i64 0] 34)).alloc (.cells #[.string ⟨#[]⟩] 9)).alloc (.cells #[.slice none 0 0] 22)).alloc (.cells #[x] 22)).alloc (.cells #[lineV (w.heap.size + 1 + 1 + 1 + 1)] 85)).alloc (.cells #[.func (.func 47) #[] #[.pointer (some ⟨w.heap.size + 1 + 1 + 1 + 1 + 1, 0, none⟩), .pointer (some ⟨w.heap.size + 1 + 1, 0, none⟩)], .func (.func 48) #[] #[.pointer (some ⟨w.heap.size + 1 + 1 + 1 + 1 + 1, 0, none⟩), .pointer (some ⟨w.heap.size + 1 + 1, 0, none⟩), .pointer (some ⟨w.heap.size + 1, 0, none⟩), .pointer (some ⟨w.heap.size + 1 + 1 + 1 + 1, 0, none⟩)], .func (.func 51) #[] #[.pointer (some ⟨w.heap.size + 1 + 1 + 1 + 1 + 1, 0, none⟩), .pointer (some ⟨w.heap.size + 1 + 1, 0, none⟩), .pointer (some ⟨w.heap.size + 1 + 1 + 1 + 1, 0, none⟩), .pointer (some ⟨w.heap.size + 1 + 1 + 1, 0, none⟩)]] 1)).heap.size = w.heap.size + 1 + 1 + 1 + 1 + 1 + 1 + 1 := by
  have n0 := BlkIs.new w 34 #[.string ⟨#[]⟩, .slice none 0 0, .int .i64 0]
  have n1 := BlkIs.new (w.alloc (.cells #[.string ⟨#[]⟩, .slice none 0 0, .int .i64 0] 34)) 34 #[.string ⟨#[]⟩, .slice none 0 0, .int .i64 0]
  simp only [World.size_alloc] at n1
  have n2 := BlkIs.new ((w.alloc (.cells #[.string ⟨#[]⟩, .slice none 0 0, .int .i64 0] 34)).alloc (.cells #[.string ⟨#[]⟩, .slice none 0 0, .int .i64 0] 34)) 9 #[.string ⟨#[]⟩]
  simp only [World.size_alloc] at n2
  have n3 := BlkIs.new (((w.alloc (.cells #[.string ⟨#[]⟩, .slice none 0 0, .int .i64 0] 34)).alloc (.cells #[.string ⟨#[]⟩, .slice none 0 0, .int .i64 0] 34)).alloc (.cells #[.string ⟨#[]⟩] 9)) 22 #[.slice none 0 0]
  simp only [World.size_alloc] at n3
  have n4 := BlkIs.new ((((w.alloc (.cells #[.string ⟨#[]⟩, .slice none 0 0, .int .i64 0] 34)).alloc (.cells #[.string ⟨#[]⟩, .slice none 0 0, .int .i64 0] 34)).alloc (.cells #[.string ⟨#[]⟩] 9)).alloc (.cells #[.slice none 0 0] 22)) 22 #[x]
  simp only [World.size_alloc] at n4
  have n5 := BlkIs.new (((((w.alloc (.cells #[.string ⟨#[]⟩, .slice none 0 0, .int .i64 0] 34)).alloc (.cells #[.string ⟨#[]⟩, .slice none 0 0, .int .i64 0] 34)).alloc (.cells #[.string ⟨#[]⟩] 9)).alloc (.cells #[.slice none 0 0] 22)).alloc (.cells #[x] 22)) 85 #[lineV (w.heap.size + 1 + 1 + 1 + 1)]
  simp only [World.size_alloc] at n5
  have n6 := BlkIs.new ((((((w.alloc (.cells #[.string ⟨#[]⟩, .slice none 0 0, .int .i64 0] 34)).alloc (.cells #[.string ⟨#[]⟩, .slice none 0 0, .int .i64 0] 34)).alloc (.cells #[.string ⟨#[]⟩] 9)).alloc (.cells #[.slice none 0 0] 22)).alloc (.cells #[x] 22)).alloc (.cells #[lineV (w.heap.size + 1 + 1 + 1 + 1)] 85)) 1 #[.func (.func 47) #[] #[.pointer (some ⟨w.heap.size + 1 + 1 + 1 + 1 + 1, 0, none⟩), .pointer (some ⟨w.heap.size + 1 + 1, 0, none⟩)], .func (.func 48) #[] #[.pointer (some ⟨w.heap.size + 1 + 1 + 1 + 1 + 1, 0, none⟩), .pointer (some ⟨w.heap.size + 1 + 1, 0, none⟩), .pointer (some ⟨w.heap.size + 1, 0, none⟩), .pointer (some ⟨w.heap.size + 1 + 1 + 1 + 1, 0, none⟩)], .func (.func 51) #[] #[.pointer (some ⟨w.heap.size + 1 + 1 + 1 + 1 + 1, 0, none⟩), .pointer (some ⟨w.heap.size + 1 + 1, 0, none⟩), .pointer (some ⟨w.heap.size + 1 + 1 + 1 + 1, 0, none⟩), .pointer (some ⟨w.heap.size + 1 + 1 + 1, 0, none⟩)]]
  simp only [World.size_alloc] at n6
  exact ⟨((((((n0.alloc (.cells #[.string ⟨#[]⟩, .slice none 0 0, .int .i64 0] 34)).alloc (.cells #[.string ⟨#[]⟩] 9)).alloc (.cells #[.slice none 0 0] 22)).alloc (.cells #[x] 22)).alloc (.cells #[lineV (w.heap.size + 1 + 1 + 1 + 1)] 85)).alloc (.cells #[.func (.func 47) #[] #[.pointer (some ⟨w.heap.size + 1 + 1 + 1 + 1 + 1, 0, none⟩), .pointer (some ⟨w.heap.size + 1 + 1, 0, none⟩)], .func (.func 48) #[] #[.pointer (some ⟨w.heap.size + 1 + 1 + 1 + 1 + 1, 0, none⟩), .pointer (some ⟨w.heap.size + 1 + 1, 0, none⟩), .pointer (some ⟨w.heap.size + 1, 0, none⟩), .pointer (some ⟨w.heap.size + 1 + 1 + 1 + 1, 0, none⟩)], .func (.func 51) #[] #[.pointer (some ⟨w.heap.size + 1 + 1 + 1 + 1 + 1, 0, none⟩), .pointer (some ⟨w.heap.size + 1 + 1, 0, none⟩), .pointer (some ⟨w.heap.size + 1 + 1 + 1 + 1, 0, none⟩), .pointer (some ⟨w.heap.size + 1 + 1 + 1, 0, none⟩)]] 1)), (((((n1.alloc (.cells #[.string ⟨#[]⟩] 9)).alloc (.cells #[.slice none 0 0] 22)).alloc (.cells #[x] 22)).alloc (.cells #[lineV (w.heap.size + 1 + 1 + 1 + 1)] 85)).alloc (.cells #[.func (.func 47) #[] #[.pointer (some ⟨w.heap.size + 1 + 1 + 1 + 1 + 1, 0, none⟩), .pointer (some ⟨w.heap.size + 1 + 1, 0, none⟩)], .func (.func 48) #[] #[.pointer (some ⟨w.heap.size + 1 + 1 + 1 + 1 + 1, 0, none⟩), .pointer (some ⟨w.heap.size + 1 + 1, 0, none⟩), .pointer (some ⟨w.heap.size + 1, 0, none⟩), .pointer (some ⟨w.heap.size + 1 + 1 + 1 + 1, 0, none⟩)], .func (.func 51) #[] #[.pointer (some ⟨w.heap.size + 1 + 1 + 1 + 1 + 1, 0, none⟩), .pointer (some ⟨w.heap.size + 1 + 1, 0, none⟩), .pointer (some ⟨w.heap.size + 1 + 1 + 1 + 1, 0, none⟩), .pointer (some ⟨w.heap.size + 1 + 1 + 1, 0, none⟩)]] 1)), ((((n2.alloc (.cells #[.slice none 0 0] 22)).alloc (.cells #[x] 22)).alloc (.cells #[lineV (w.heap.size + 1 + 1 + 1 + 1)] 85)).alloc (.cells #[.func (.func 47) #[] #[.pointer (some ⟨w.heap.size + 1 + 1 + 1 + 1 + 1, 0, none⟩), .pointer (some ⟨w.heap.size + 1 + 1, 0, none⟩)], .func (.func 48) #[] #[.pointer (some ⟨w.heap.size + 1 + 1 + 1 + 1 + 1, 0, none⟩), .pointer (some ⟨w.heap.size + 1 + 1, 0, none⟩), .pointer (some ⟨w.heap.size + 1, 0, none⟩), .pointer (some ⟨w.heap.size + 1 + 1 + 1 + 1, 0, none⟩)], .func (.func 51) #[] #[.pointer (some ⟨w.heap.size + 1 + 1 + 1 + 1 + 1, 0, none⟩), .pointer (some ⟨w.heap.size + 1 + 1, 0, none⟩), .pointer (some ⟨w.heap.size + 1 + 1 + 1 + 1, 0, none⟩), .pointer (some ⟨w.heap.size + 1 + 1 + 1, 0, none⟩)]] 1)), (((n3.alloc (.cells #[x] 22)).alloc (.cells #[lineV (w.heap.size + 1 + 1 + 1 + 1)] 85)).alloc (.cells #[.func (.func 47) #[] #[.pointer (some ⟨w.heap.size + 1 + 1 + 1 + 1 + 1, 0, none⟩), .pointer (some ⟨w.heap.size + 1 + 1, 0, none⟩)], .func (.func 48) #[] #[.pointer (some ⟨w.heap.size + 1 + 1 + 1 + 1 + 1, 0, none⟩), .pointer (some ⟨w.heap.size + 1 + 1, 0, none⟩), .pointer (some ⟨w.heap.size + 1, 0, none⟩), .pointer (some ⟨w.heap.size + 1 + 1 + 1 + 1, 0, none⟩)], .func (.func 51) #[] #[.pointer (some ⟨w.heap.size + 1 + 1 + 1 + 1 + 1, 0, none⟩), .pointer (some ⟨w.heap.size + 1 + 1, 0, none⟩), .pointer (some ⟨w.heap.size + 1 + 1 + 1 + 1, 0, none⟩), .pointer (some ⟨w.heap.size + 1 + 1 + 1, 0, none⟩)]] 1)), ((n4.alloc (.cells #[lineV (w.heap.size + 1 + 1 + 1 + 1)] 85)).alloc (.cells #[.func (.func 47) #[] #[.pointer (some ⟨w.heap.size + 1 + 1 + 1 + 1 + 1, 0, none⟩), .pointer (some ⟨w.heap.size + 1 + 1, 0, none⟩)], .func (.func 48) #[] #[.pointer (some ⟨w.heap.size + 1 + 1 + 1 + 1 + 1, 0, none⟩), .pointer (some ⟨w.heap.size + 1 + 1, 0, none⟩), .pointer (some ⟨w.heap.size + 1, 0, none⟩), .pointer (some ⟨w.heap.size + 1 + 1 + 1 + 1, 0, none⟩)], .func (.func 51) #[] #[.pointer (some ⟨w.heap.size + 1 + 1 + 1 + 1 + 1, 0, none⟩), .pointer (some ⟨w.heap.size + 1 + 1, 0, none⟩), .pointer (some ⟨w.heap.size + 1 + 1 + 1 + 1, 0, none⟩), .pointer (some ⟨w.heap.size + 1 + 1 + 1, 0, none⟩)]] 1)), (n5.alloc (.cells #[.func (.func 47) #[] #[.pointer (some ⟨w.heap.size + 1 + 1 + 1 + 1 + 1, 0, none⟩), .pointer (some ⟨w.heap.size + 1 + 1, 0, none⟩)], .func (.func 48) #[] #[.pointer (some ⟨w.heap.size + 1 + 1 + 1 + 1 + 1, 0, none⟩), .pointer (some ⟨w.heap.size + 1 + 1, 0, none⟩), .pointer (some ⟨w.heap.size + 1, 0, none⟩), .pointer (some ⟨w.heap.size + 1 + 1 + 1 + 1, 0, none⟩)], .func (.func 51) #[] #[.pointer (some ⟨w.heap.size + 1 + 1 + 1 + 1 + 1, 0, none⟩), .pointer (some ⟨w.heap.size + 1 + 1, 0, none⟩), .pointer (some ⟨w.heap.size + 1 + 1 + 1 + 1, 0, none⟩), .pointer (some ⟨w.heap.size + 1 + 1 + 1, 0, none⟩)]] 1)), n6, ((((((((Below.refl _ w).alloc (by simp) (.cells #[.string ⟨#[]⟩, .slice none 0 0, .int .i64 0] 34)).alloc (by simp) (.cells #[.string ⟨#[]⟩, .slice none 0 0, .int .i64 0] 34)).alloc (by simp; omega) (.cells #[.string ⟨#[]⟩] 9)).alloc (by simp; omega) (.cells #[.slice none 0 0] 22)).alloc (by simp; omega) (.cells #[x] 22)).alloc (by simp; omega) (.cells #[lineV (w.heap.size + 1 + 1 + 1 + 1)] 85)).alloc (by simp; omega) (.cells #[.func (.func 47) #[] #[.pointer (some ⟨w.heap.size + 1 + 1 + 1 + 1 + 1, 0, none⟩), .pointer (some ⟨w.heap.size + 1 + 1, 0, none⟩)], .func (.func 48) #[] #[.pointer (some ⟨w.heap.size + 1 + 1 + 1 + 1 + 1, 0, none⟩), .pointer (some ⟨w.heap.size + 1 + 1, 0, none⟩), .pointer (some ⟨w.heap.size + 1, 0, none⟩), .pointer (some ⟨w.heap.size + 1 + 1 + 1 + 1, 0, none⟩)], .func (.func 51) #[] #[.pointer (some ⟨w.heap.size + 1 + 1 + 1 + 1 + 1, 0, none⟩), .pointer (some ⟨w.heap.size + 1 + 1, 0, none⟩), .pointer (some ⟨w.heap.size + 1 + 1 + 1 + 1, 0, none⟩), .pointer (some ⟨w.heap.size + 1 + 1 + 1, 0, none⟩)]] 1)), by simp⟩
/-- what has been read, and what is left, behind so many closures. -/
def RdSt (r : L) (N lo bE bS bM bR : Nat) : Nat → World → Prop
  | 0, X => Rd X N bR r ∧ BlkIs X bS 9 #[.string ⟨#[]⟩] ∧ BlkIs X bE 34 #[.string ⟨#[]⟩, .slice none 0 0, .int .i64 0] ∧ BlkIs X bM 22 #[.slice none 0 0]
  | 1, X => ∃ n t, topP r = some (n, t) ∧ n.length ≤ 100000 ∧ t.length ≤ 100000 ∧ Rd X N bR t ∧ BlkIs X bS 9 #[.string (str n)] ∧ BlkIs X bE 34 #[.string ⟨#[]⟩, .slice none 0 0, .int .i64 0] ∧ BlkIs X bM 22 #[.slice none 0 0]
  | 2, X => ∃ n t e u, topP r = some (n, t) ∧ envP n t = some (e, u) ∧ n.length ≤ 100000 ∧ t.length ≤ 100000 ∧ u.length ≤ 100000 ∧ Rd X N bR u ∧ BlkIs X bS 9 #[.string (str n)] ∧ EnvIs X lo bE e ∧ BlkIs X bM 22 #[.slice none 0 0]
  | _, X => ∃ n t e u b, topP r = some (n, t) ∧ envP n t = some (e, u) ∧ encP n u = some b ∧ t.length ≤ 100000 ∧ b.length ≤ 100000 ∧ EnvIs X lo bE e ∧ Rd X N bM b
theorem prog_of {r n t u b : L} {e : Env} (h1 : topP r = some (n, t)) (h2 : envP n t = some (e, u)) (h3 : encP n u = some b) : progR r = some (e, b) := by
  unfold progR
  rw [h1]; simp only; rw [h2]; simp only; rw [h3]
theorem prog_no1 {r : L} (h1 : topP r = none) : progR r = none := by
  unfold progR
  rw [h1]
theorem prog_no2 {r n t : L} (h1 : topP r = some (n, t)) (h2 : envP n t = none) : progR r = none := by
  unfold progR
  rw [h1]; simp only; rw [h2]
theorem prog_no3 {r n t u : L} {e : Env} (h1 : topP r = some (n, t)) (h2 : envP n t = some (e, u)) (h3 : encP n u = none) : progR r = none := by
  unfold progR
  rw [h1]; simp only; rw [h2]; simp only; rw [h3]
theorem readM_no {r : L} (h : progR r = none) : readM r = none := by
  unfold readM
  rw [h]
theorem Tx.tn {p : Nat → Prop} {w w' : World} {A : Option Addr} {ps : List L} (h : Tx w w.heap.size A ps) (ht : Tn p w w') (hp : ∀ ad, A = some ad → ¬ p ad.block) : Tx w' w'.heap.size A ps := fun j u hj => by
  obtain ⟨ad, e, hb, hc⟩ := h j u hj
  refine ⟨ad, e, Nat.lt_of_lt_of_le hb ht.size, ?_⟩
  have hk := ht.block ad.block hb (hp ad e)
  rw [← hc]
  have hbl : (ad.add j).block = ad.block := blk_add ad j
  simp [World.cell?, hbl, hk]
theorem EnvIs.tn {p : Nat → Prop} {w w' : World} {lo E : Nat} {e : Env} (h : EnvIs w lo E e) (ht : Tn p w w') (hE : ¬ p E) (hp : ∀ i, lo ≤ i → ¬ p i) : EnvIs w' lo E e := by
  obtain ⟨A, c, h1, h2, h3, h4⟩ := h
  exact ⟨A, c, h1.tn ht hE, h2.tn ht fun ad e => hp _ (h4 ad e), h3, h4⟩
theorem EnvIs.low {w : World} {lo lo' E : Nat} {e : Env} (h : EnvIs w lo E e) (hl : lo' ≤ lo) : EnvIs w lo' E e := by
  obtain ⟨A, c, h1, h2, h3, h4⟩ := h
  exact ⟨A, c, h1, h2, h3, fun ad e => Nat.le_trans hl (h4 ad e)⟩
/-- an envelope's value whose texts lie from lo on. -/
def EnvLo (w : World) (lo : Nat) (x : Value) (e : Env) : Prop := ∃ A c, x = .agg #[.string (str e.1), .slice A e.2.1.length c, .int .i64 e.2.2] ∧ Tx w w.heap.size A e.2.1 ∧ (e.2.1.length ≤ c ∧ c ≤ maxLen) ∧ ∀ ad, A = some ad → lo ≤ ad.block
/-- what read answers. -/
def ReadIQ (w : World) (r : L) (e : Ending) (w' : World) : Prop :=
  Below w.heap.size w w' ∧ ((readM r = none ∧ e = Fa.bad 110) ∨ ∃ en b, readM r = some (en, b) ∧ ∃ x v, e = .returned (.tuple #[x, v]) ∧ EnvLo w' w.heap.size x en ∧ Own5 w' w.heap.size v b)
theorem readIQ_bad {w w' : World} {r : L} (hB : Below w.heap.size w w') (h : progR r = none) : ReadIQ w r (Fa.bad 110) w' := ⟨hB, .inl ⟨readM_no h, rfl⟩⟩
theorem readIQ_bad2 {w w' : World} {r : L} {e : Env} {b : L} (hB : Below w.heap.size w w') (h : progR r = some (e, b)) (hn : ¬ (errS e b = 0 ∧ repS e b = r)) : ReadIQ w r (Fa.bad 110) w' := ⟨hB, .inl ⟨by unfold readM; rw [h]; simp only; rw [if_neg hn], rfl⟩⟩
theorem readIQ_ok {w w' : World} {r : L} {e : Env} {b : L} {x v : Value} (hB : Below w.heap.size w w') (h : progR r = some (e, b)) (hn : errS e b = 0 ∧ repS e b = r) (hx : EnvLo w' w.heap.size x e) (hv : Own5 w' w.heap.size v b) : ReadIQ w r (.returned (.tuple #[x, v])) w' := ⟨hB, .inr ⟨e, b, by unfold readM; rw [h]; simp only; rw [if_pos hn], x, v, rfl, hx, hv⟩⟩
theorem res_read {w : World} {g : Nat} {x0 x1 x2 : Value} (tmps : Array Value) (hB : BlkIs w g 34 #[x0, x1, x2]) (h2 : tmps.getD 2 undef = .pointer (some ⟨g, 0, none⟩)) :
    (results Tryz.f24 tmps).run Tryz.prog w = .ok (.tuple #[.agg #[x0, x1, x2], tmps.getD 3 undef]) w := by
  rw [results_cell_tmp rfl, h2]
  have hl := run_loadVar_row (P := Tryz.prog) w g 34 34 #[x0, x1, x2] (0, 0) _ hB Tryz.underlying34 rfl (by kernel_rfl)
  simp only [asAddr, Result.andThen, Sem.run_pure]
  rw [hl]
theorem topP_len {r n t : L} (h : topP r = some (n, t)) : n.length + t.length ≤ r.length := by
  unfold topP at h
  split at h
  · cases h
  · rename_i h1
    split at h
    · cases h
    · rename_i h2
      split at h
      · cases h
      · rename_i h3
        injection h with h
        injection h with e1 e2
        subst e1; subst e2
        have := line_len h1
        have := line_len h2
        have := line_len h3
        omega
theorem small_read {n t u : L} {e : Env} (h : envP n t = some (e, u)) (ht : t.length ≤ 100000) : SmallE e := by
  obtain ⟨h1, h2, h3, h4, h5, _⟩ := envP_bounds h
  refine ⟨by omega, fun k => ?_, by omega, h4, h5⟩
  rcases Nat.lt_or_ge k e.2.1.length with hk | hk
  · have := h2 (e.2.1.getD k []) (by simp [List.getD, hk])
    omega
  · simp [List.getD, List.getElem?_eq_none hk]
set_option maxHeartbeats 6400000 in
theorem read_any {w : World} {A : Option Addr} {r : L} (h : Bts w w.heap.size A r) (c : Nat) (hc : r.length ≤ c) (hm : c ≤ maxLen) (hA : A = none → c = 0) (hl : r.length ≤ 100000) (hG : GlM w) (hT : GlT w) (hE0 : GlE w) :
    Calls Tryz.prog 24 #[.slice A r.length c] w (ReadIQ w r) := by
  have hen2 := htop
  have hen3 := henv
  have hen4 := henc
  have hmf : ∀ (fn : Fn) (first cap : Array Value) (w : World), (Instr.makeFunc fn first cap).run Tryz.prog w = .ok (.func fn first cap) w := fun _ _ _ _ => rfl
  generalize hln : r.length = ln at *
  have HLN := Lib.hid hln
  clear hln
  have nst := BlkIs.new (((((w.alloc (.cells #[.string ⟨#[]⟩, .slice none 0 0, .int .i64 0] 34)).alloc (.cells #[.string ⟨#[]⟩, .slice none 0 0, .int .i64 0] 34)).alloc (.cells #[.string ⟨#[]⟩] 9)).alloc (.cells #[.slice none 0 0] 22)).alloc (.cells #[.slice A ln c] 22)) 85 #[.nilFunc]
  simp only [World.size_alloc] at nst
  have hst := store_new nst (lineV (w.heap.size + 1 + 1 + 1 + 1)) rfl
  have QQ := Lib.hid (rd_w8 w (.slice A ln c))
  clear nst
  go_enter Tryz.func24, Tryz.ntmps24
  go_wp2_with fail
  have QQ0 := QQ.out
  clear hst QQ
  generalize (((((((w.alloc (.cells #[.string ⟨#[]⟩, .slice none 0 0, .int .i64 0] 34)).alloc (.cells #[.string ⟨#[]⟩, .slice none 0 0, .int .i64 0] 34)).alloc (.cells #[.string ⟨#[]⟩] 9)).alloc (.cells #[.slice none 0 0] 22)).alloc (.cells #[.slice A ln c] 22)).alloc (.cells #[lineV (w.heap.size + 1 + 1 + 1 + 1)] 85)).alloc (.cells #[.func (.func 47) #[] #[.pointer (some ⟨w.heap.size + 1 + 1 + 1 + 1 + 1, 0, none⟩), .pointer (some ⟨w.heap.size + 1 + 1, 0, none⟩)], .func (.func 48) #[] #[.pointer (some ⟨w.heap.size + 1 + 1 + 1 + 1 + 1, 0, none⟩), .pointer (some ⟨w.heap.size + 1 + 1, 0, none⟩), .pointer (some ⟨w.heap.size + 1, 0, none⟩), .pointer (some ⟨w.heap.size + 1 + 1 + 1 + 1, 0, none⟩)], .func (.func 51) #[] #[.pointer (some ⟨w.heap.size + 1 + 1 + 1 + 1 + 1, 0, none⟩), .pointer (some ⟨w.heap.size + 1 + 1, 0, none⟩), .pointer (some ⟨w.heap.size + 1 + 1 + 1 + 1, 0, none⟩), .pointer (some ⟨w.heap.size + 1 + 1 + 1, 0, none⟩)]] 1)) = w8 at *
  generalize hb1 : w.heap.size + 1 = b1 at *
  generalize hb2 : b1 + 1 = b2 at *
  generalize hb3 : b2 + 1 = b3 at *
  generalize hb4 : b3 + 1 = b4 at *
  generalize hb5 : b4 + 1 = b5 at *
  generalize hb6 : b5 + 1 = b6 at *
  have HBN := Lib.hid (And.intro hb1 (And.intro hb2 (And.intro hb3 (And.intro hb4 (And.intro hb5 hb6)))))
  have QQ := Lib.hid QQ0
  clear QQ0 hb1 hb2 hb3 hb4 hb5 hb6
  go_loopw [26] (fun i wr => ∃ k : Nat, k ≤ 3 ∧ i = .int .i64 (k : Nat) ∧ Hid (RdSt r w.heap.size (b6 + 1) b1 b2 b3 b4 k wr) ∧ Hid (BlkIs wr b5 85 #[lineV b4]) ∧ Hid (BlkIs wr b6 1 #[.func (.func 47) #[] #[.pointer (some ⟨b5, 0, none⟩), .pointer (some ⟨b2, 0, none⟩)], .func (.func 48) #[] #[.pointer (some ⟨b5, 0, none⟩), .pointer (some ⟨b2, 0, none⟩), .pointer (some ⟨b1, 0, none⟩), .pointer (some ⟨b4, 0, none⟩)], .func (.func 51) #[] #[.pointer (some ⟨b5, 0, none⟩), .pointer (some ⟨b2, 0, none⟩), .pointer (some ⟨b4, 0, none⟩), .pointer (some ⟨b3, 0, none⟩)]]) ∧ Hid (BlkIs wr w.heap.size 34 #[.string ⟨#[]⟩, .slice none 0 0, .int .i64 0]) ∧ Hid (Below w.heap.size w wr)) (fun i _ => 4 - (intOf i).toNat)
  case atStart =>
    obtain ⟨q0, q1, q2, q3, q4, q5, q6, qb, qz⟩ := QQ.out
    refine ⟨0, Nat.zero_le _, rfl, Lib.hid ⟨⟨A, c, by rw [HLN.out]; exact q4, h.below qb, by rw [HLN.out]; exact hc, hm, hA⟩, q2, q1, q3⟩, Lib.hid q5, Lib.hid q6, Lib.hid q0, Lib.hid qb⟩
  case round =>
    obtain ⟨k, hk, rfl, HST, HL, HF, HZ, HB⟩ := hrel
    match k, hk with
    | 0, _ =>
      obtain ⟨hR, hS, hE, hM⟩ := HST.out
      have z6 := (BlkIs.cell HF.out 0).trans (rfl : _ = some (Value.func (.func 47) #[] #[.pointer (some ⟨b5, 0, none⟩), .pointer (some ⟨b2, 0, none⟩)]))
      have HC := Lib.hid (top_any hR HL.out hS (by have := HBN.out; omega) (by have := HBN.out; omega) (by have := HBN.out; omega) (by have := HBN.out; omega) (by have := HBN.out; omega) (by rw [HLN.out]; exact hl) (hG.below HB.out hG.lt) hG.lt)
      have HEM := Lib.hid (And.intro hE hM)
      clear hR hS hE hM
      go_wp2_with fail
      refine HC.out.mono ?_
      rintro e w1 ⟨ht, ⟨h1, rfl⟩ | ⟨n, t, h1, rfl, hr, hs, hln⟩⟩
      · exact ⟨rfl, readIQ_bad (HB.out.trans (ht.below HB.out.size fun i hi e => by have := HBN.out; omega)) (prog_no1 h1)⟩
      have HB1 := Lib.hid (HB.out.trans (ht.below HB.out.size fun i hi e => by have := HBN.out; omega))
      have HL1 := Lib.hid (HL.out.tn ht (by have := HBN.out; omega))
      have HF1 := Lib.hid (HF.out.tn ht (by have := HBN.out; omega))
      have HZ1 := Lib.hid (HZ.out.tn ht (by have := HBN.out; omega))
      have HS1 : Hid (RdSt r w.heap.size (b6 + 1) b1 b2 b3 b4 1 w1) := Lib.hid ⟨n, t, h1, by have := HLN.out; omega, by have := HLN.out; omega, hr, hs, HEM.out.1.tn ht (by have := HBN.out; omega), HEM.out.2.tn ht (by have := HBN.out; omega)⟩
      clear ht h1 hr hs hln
      go_wp2_with fail
      go_roundw
      case rel => exact ⟨1, by omega, by first | rfl | go_num, HS1, HL1, HF1, HZ1, HB1⟩
      case measure => simp [intOf]
    | 1, _ =>
      obtain ⟨n, t, h1, hn1, ht1, hR, hS, hE, hM⟩ := HST.out
      have z6 := (BlkIs.cell HF.out 1).trans (rfl : _ = some (Value.func (.func 48) #[] #[.pointer (some ⟨b5, 0, none⟩), .pointer (some ⟨b2, 0, none⟩), .pointer (some ⟨b1, 0, none⟩), .pointer (some ⟨b4, 0, none⟩)]))
      have HC := Lib.hid (envl_any hR HL.out hS hE (by have := HBN.out; omega) (by have := HBN.out; omega) (by have := HBN.out; omega) (by have := HBN.out; omega) (by have := HBN.out; omega) (by have := HBN.out; omega) (by have := HBN.out; omega) ht1 hn1 (hG.below HB.out hG.lt) hG.lt (hE0.below HB.out hE0.lt) hE0.lt)
      have HEM := Lib.hid (And.intro hS hM)
      have H1 := Lib.hid (And.intro h1 (And.intro hn1 ht1))
      have hlo : b6 + 1 ≤ wr.heap.size := by have := HF.out.lt; omega
      clear hR hS hE hM h1 hn1 ht1
      go_wp2_with fail
      refine HC.out.mono ?_
      rintro e w1 ⟨ht, ⟨h2, rfl⟩ | ⟨en, u, h2, rfl, hr, hs, hln⟩⟩
      · exact ⟨rfl, readIQ_bad (HB.out.trans (ht.below HB.out.size fun i hi e => by have := HBN.out; omega)) (prog_no2 H1.out.1 h2)⟩
      have HB1 := Lib.hid (HB.out.trans (ht.below HB.out.size fun i hi e => by have := HBN.out; omega))
      have HL1 := Lib.hid (HL.out.tn ht (by have := HBN.out; omega))
      have HF1 := Lib.hid (HF.out.tn ht (by have := HBN.out; omega))
      have HZ1 := Lib.hid (HZ.out.tn ht (by have := HBN.out; omega))
      have HS1 : Hid (RdSt r w.heap.size (b6 + 1) b1 b2 b3 b4 2 w1) := Lib.hid ⟨n, t, en, u, H1.out.1, h2, H1.out.2.1, H1.out.2.2, by have := H1.out.2.2; omega, hr, HEM.out.1.tn ht (by have := HBN.out; omega), hs.low hlo, HEM.out.2.tn ht (by have := HBN.out; omega)⟩
      clear ht h2 hr hs hln hlo
      go_wp2_with fail
      go_roundw
      case rel => exact ⟨2, by omega, by first | rfl | go_num, HS1, HL1, HF1, HZ1, HB1⟩
      case measure => simp [intOf]
    | 2, _ =>
      obtain ⟨n, t, en, u, h1, h2, hn1, ht1, hu1, hR, hS, hE, hM⟩ := HST.out
      have z6 := (BlkIs.cell HF.out 2).trans (rfl : _ = some (Value.func (.func 51) #[] #[.pointer (some ⟨b5, 0, none⟩), .pointer (some ⟨b2, 0, none⟩), .pointer (some ⟨b4, 0, none⟩), .pointer (some ⟨b3, 0, none⟩)]))
      have HC := Lib.hid (enc_any hR HL.out hS hM (by have := HBN.out; omega) (by have := HBN.out; omega) (by have := HBN.out; omega) (by have := HBN.out; omega) (by have := HBN.out; omega) hu1 hn1 (hG.below HB.out hG.lt) hG.lt)
      have HEM := Lib.hid hE
      have H1 := Lib.hid (And.intro h1 (And.intro h2 ht1))
      clear hR hS hE hM h1 h2 hn1 ht1
      go_wp2_with fail
      refine HC.out.mono ?_
      rintro e w1 ⟨ht, ⟨h3, rfl⟩ | ⟨b, h3, rfl, hr, hln⟩⟩
      · exact ⟨rfl, readIQ_bad (HB.out.trans (ht.below HB.out.size fun i hi e => by have := HBN.out; omega)) (prog_no3 H1.out.1 H1.out.2.1 h3)⟩
      have HB1 := Lib.hid (HB.out.trans (ht.below HB.out.size fun i hi e => by have := HBN.out; omega))
      have HL1 := Lib.hid (HL.out.tn ht (by have := HBN.out; omega))
      have HF1 := Lib.hid (HF.out.tn ht (by have := HBN.out; omega))
      have HZ1 := Lib.hid (HZ.out.tn ht (by have := HBN.out; omega))
      have HS1 : Hid (RdSt r w.heap.size (b6 + 1) b1 b2 b3 b4 3 w1) := Lib.hid ⟨n, t, en, u, b, H1.out.1, H1.out.2.1, h3, H1.out.2.2, by omega, HEM.out.tn ht (by have := HBN.out; omega) (fun i hi => by have := HBN.out; omega), hr⟩
      clear ht h3 hr hln
      go_wp2_with fail
      go_roundw
      case rel => exact ⟨3, by omega, by first | rfl | go_num, HS1, HL1, HF1, HZ1, HB1⟩
      case measure => simp [intOf]
    | 3, _ =>
      obtain ⟨n, t, u, en, b, h1, h2, h3, ht1, hb1, hE, hM⟩ : ∃ n t u en b, topP r = some (n, t) ∧ envP n t = some (en, u) ∧ encP n u = some b ∧ t.length ≤ 100000 ∧ b.length ≤ 100000 ∧ EnvIs wr (b6 + 1) b1 en ∧ Rd wr w.heap.size b3 b := by
        obtain ⟨n, t, en, u, b, rest⟩ := HST.out
        exact ⟨n, t, u, en, b, rest⟩
      have HPR := Lib.hid (prog_of h1 h2 h3)
      have HSE := small_read h2 ht1
      obtain ⟨A2, c2, hE1, hE2, hE3, hE4⟩ := hE
      obtain ⟨A3, c3, hM1, hM2, hM3, hM4, hM5⟩ := hM
      have HRP : Hid (Calls Tryz.prog 21 #[.agg #[.string (str en.1), .slice A2 en.2.1.length c2, .int .i64 en.2.2], .slice A3 b.length c3] wr (RepP wr en b)) := Lib.hid (report_any ⟨A2, c2, rfl, hE2, hE3.1, hE3.2⟩ HSE (hM2.more HB.out.size) c3 hM3 hM4 hM5 hb1 (hT.below HB.out hT.lt) (hG.below HB.out hG.lt))
      have HE1 := Lib.hid hE1
      have HEA := Lib.hid (And.intro hE2 (And.intro hE3 hE4))
      have HM1 := Lib.hid hM1
      have HM2 := Lib.hid hM2
      have HB1L : Hid (b.length ≤ 100000) := Lib.hid hb1
      unfold RepP at HRP
      clear h1 h2 h3 ht1 hb1 hE1 hE2 hE3 hE4 hM1 hM2 hM3 hM4 hM5 HST HSE
      have HREQ : Hid (∀ A4 c4 X, Bts X X.heap.size A4 (repS en b) → Bts X w.heap.size A r → Calls Tryz.prog 54 #[.slice A4 (repS en b).length c4, .slice A ln c] X fun e w' => e = .returned (.bool (repS en b == r)) ∧ X = w') := Lib.hid fun A4 c4 X g1 g2 => by
        have := equal_any g1 g2 c4 c
        rw [HLN.out] at this
        exact this
      have HBTR := Lib.hid h
      generalize hsf : str en.1 = sf at *
      have HSF := Lib.hid hsf
      generalize htn : en.2.1.length = tn at *
      have HTN := Lib.hid htn
      generalize hev : en.2.2 = v at *
      have HEV := Lib.hid hev
      generalize hbl : b.length = bl at *
      have HBL := Lib.hid hbl
      generalize hrl : (repS en b).length = rl at *
      have HRL := Lib.hid hrl
      clear hsf htn hev hbl hrl h
      have z0 := (BlkIs.cell HE1.out 0).trans (rfl : _ = some (Value.string sf))
      have z1 := (BlkIs.cell HE1.out 1).trans (rfl : _ = some (Value.slice A2 tn c2))
      have z2 := (BlkIs.cell HE1.out 2).trans (rfl : _ = some (Value.int .i64 v))
      have zm := (BlkIs.cell HM1.out 0).trans (rfl : _ = some (Value.slice A3 bl c3))
      go_wp2_with fail
      refine HRP.out.mono ?_
      rintro e w2 ⟨hb2, v2, rfl, hq⟩
      have HBW := Lib.hid hb2
      have HB2 := Lib.hid (HB.out.trans (hb2.mono HB.out.size))
      have HQ := Lib.hid hq
      clear hb2 hq z0 z1 z2 zm HRP
      rcases HQ.out with ⟨h0, A4, c4, rfl, hbt4⟩ | ⟨h0, rfl⟩
      · have HEQ := Lib.hid (HREQ.out A4 c4 w2 hbt4 (HBTR.out.below HB2.out))
        have HE0' := Lib.hid h0
        rw [h0]
        clear h0 hbt4 HREQ
        by_cases hrr : repS en b = r
        · have hrb : (repS en b == r) = true := by rw [hrr]; exact beq_self_eq_true _
          rw [hrb] at HEQ
          have HRR := Lib.hid hrr
          clear hrr hrb
          go_wp2_with fail
          refine HEQ.out.mono ?_
          rintro e w3 ⟨rfl, rfl⟩
          go_wp2_with (first
            | (go_at_call 46; refine (Fa.mnd_t (by first | rfl | (simp; done)) _).mono ?_; rintro e w' ⟨rfl, rfl⟩)
            | fail)
          have HE2 : Hid (BlkIs w2.drew b1 34 #[.string sf, .slice A2 tn c2, .int .i64 v]) := Lib.hid ((HBW.out.block _ HE1.out.lt).trans HE1.out)
          have HM3 : Hid (BlkIs w2.drew b3 22 #[.slice A3 bl c3]) := Lib.hid ((HBW.out.block _ HM1.out.lt).trans HM1.out)
          have HZ2 : Hid (BlkIs w2.drew w.heap.size 34 #[.string ⟨#[]⟩, .slice none 0 0, .int .i64 0]) := Lib.hid ((HBW.out.block _ HZ.out.lt).trans HZ.out)
          have HBD : Hid (Below wr.heap.size wr w2.drew) := Lib.hid (below_drewN HBW.out 1)
          have hz4 := HBD.out.size
          have HCL : Hid (Calls Tryz.prog 55 #[.slice A3 bl c3] w2.drew fun e w' => ∃ v, e = .returned v ∧ Own5 w' w2.drew.heap.size v b ∧ Below w2.drew.heap.size w2.drew w') := Lib.hid (by
            have := Dt.clone_any (HM2.out.below (HBD.out.mono HB.out.size)) c3 (by have := HB1L.out; have := HBL.out; omega)
            rw [HBL.out] at this
            exact this)
          have hzr : w.heap.size < wr.heap.size := HZ.out.lt
          have hzr2 : w.heap.size < w2.drew.heap.size := by omega
          refine wp_region_held_drew (S := (fun Y => BlkIs Y b1 34 #[.string sf, .slice A2 tn c2, .int .i64 v] ∧ BlkIs Y b3 22 #[.slice A3 bl c3])) (by kernel_rfl) (⟨HE2.out, HM3.out⟩) (fun hHeld => ?_)
          generalize w2.drew = w4 at *
          refine wpAnyH_take (i := 0) (v := .agg #[.string sf, .slice A2 tn c2, .int .i64 v]) rfl (by kernel_rfl) (by kernel_rfl) (by kernel_rfl) (fun _ _ _ h => h) (Or.inl ⟨by rfl, fun w hS => by (have c0 := (BlkIs.cell hS.1 0).trans (rfl : _ = some (Value.string sf)); have c1 := (BlkIs.cell hS.1 1).trans (rfl : _ = some (Value.slice A2 tn c2)); have c2 := (BlkIs.cell hS.1 2).trans (rfl : _ = some (Value.int .i64 v)); go_simp)⟩) hHeld ?_
          try simp only [Act.put, List.getElem_toArray, List.getElem_cons_zero, List.setIfInBounds_toArray, List.set_cons_zero, List.set_cons_succ]
          refine wpAnyH_take (i := 1) (v := .slice A3 bl c3) rfl (by kernel_rfl) (by kernel_rfl) (by kernel_rfl) (fun _ _ _ h => h) (Or.inl ⟨by rfl, fun w hS => by (have c0 := (BlkIs.cell hS.2 0).trans (rfl : _ = some (Value.slice A3 bl c3)); go_simp)⟩) hHeld ?_
          try simp only [Act.put, List.getElem_toArray, List.getElem_cons_zero, List.getElem_cons_succ, List.setIfInBounds_toArray, List.set_cons_zero, List.set_cons_succ]
          refine wpAnyH_ready (rs := [2]) (by kernel_rfl) (by simp) ?_
          refine AllReadyH.cons rfl (fun K hK => ?_) AllReadyH.nil
          go_simp
          go_wp2_with (first | (refine HCL.out.mono ?_; rintro e w5 ⟨v5, rfl, ho5, hb5⟩; obtain ⟨A5, c5, rfl, _, _⟩ := own_slice ho5; have HO5 := Lib.hid ho5; have HB5 := Lib.hid hb5; have HE5 : Hid (BlkIs w5 b1 34 #[.string sf, .slice A2 tn c2, .int .i64 v]) := Lib.hid ((hb5.block _ HE2.out.lt).trans HE2.out); have HM5 : Hid (BlkIs w5 b3 22 #[.slice A3 bl c3]) := Lib.hid ((hb5.block _ HM3.out.lt).trans HM3.out); have HZ5 : Hid (BlkIs w5 w.heap.size 34 #[.string ⟨#[]⟩, .slice none 0 0, .int .i64 0]) := Lib.hid ((hb5.block _ HZ2.out.lt).trans HZ2.out); clear ho5 hb5) | fail)
          refine hK.out _ _ ?_ (fun hHeld => ?_)
          · exact ⟨HE5.out, HM5.out⟩
          clear hK K
          try simp only [Act.put, List.getElem_toArray, List.getElem_cons_zero, List.getElem_cons_succ, List.setIfInBounds_toArray, List.set_cons_zero, List.set_cons_succ]
          rw [HBL.out]
          have z0c := (BlkIs.cell HZ5.out 0).trans (rfl : _ = some (Value.string ⟨#[]⟩))
          have z1c := (BlkIs.cell HZ5.out 1).trans (rfl : _ = some (Value.slice none 0 0))
          have z2c := (BlkIs.cell HZ5.out 2).trans (rfl : _ = some (Value.int .i64 0))
          have zf0 := HZ5.out.froz 0
          have zf1 := HZ5.out.froz 1
          have zf2 := HZ5.out.froz 2
          have HZF := Lib.hid (((HZ5.out.put 0 (.string sf)).put 1 (.slice A2 tn c2)).put 2 (.int .i64 v))
          have HEF := Lib.hid (((HE5.out.far (x := ⟨w.heap.size, 0, none⟩) (by have := HBN.out; show b1 ≠ w.heap.size; omega) (.string sf)).far (x := ⟨w.heap.size, 1, none⟩) (by have := HBN.out; show b1 ≠ w.heap.size; omega) (.slice A2 tn c2)).far (x := ⟨w.heap.size, 2, none⟩) (by have := HBN.out; show b1 ≠ w.heap.size; omega) (.int .i64 v))
          have HMF := Lib.hid (((HM5.out.far (x := ⟨w.heap.size, 0, none⟩) (by have := HBN.out; show b3 ≠ w.heap.size; omega) (.string sf)).far (x := ⟨w.heap.size, 1, none⟩) (by have := HBN.out; show b3 ≠ w.heap.size; omega) (.slice A2 tn c2)).far (x := ⟨w.heap.size, 2, none⟩) (by have := HBN.out; show b3 ≠ w.heap.size; omega) (.int .i64 v))
          have HTF := Lib.hid (((((Tn.of_below (p := fun k => k = w.heap.size) HBD.out).trans (Tn.of_below HB5.out)).setCell (x := ⟨w.heap.size, 0, none⟩) (.inl rfl) (.string sf)).setCell (x := ⟨w.heap.size, 1, none⟩) (.inl rfl) (.slice A2 tn c2)).setCell (x := ⟨w.heap.size, 2, none⟩) (.inl rfl) (.int .i64 v))
          have HBF := Lib.hid (HB.out.trans (HTF.out.below HB.out.size (fun i hi e => by omega)))
          have HOF := Lib.hid (own_far (own_far (own_far (own_more HO5.out (by omega : w.heap.size ≤ w4.heap.size)) (x := ⟨w.heap.size, 0, none⟩) (fun g hg => by have := (HO5.out.lt g hg).1; show g ≠ w.heap.size; omega) (.string sf)) (x := ⟨w.heap.size, 1, none⟩) (fun g hg => by have := (HO5.out.lt g hg).1; show g ≠ w.heap.size; omega) (.slice A2 tn c2)) (x := ⟨w.heap.size, 2, none⟩) (fun g hg => by have := (HO5.out.lt g hg).1; show g ≠ w.heap.size; omega) (.int .i64 v))
          refine wpAnyH_ready (rs := [3]) (by kernel_rfl) (by simp) ?_
          refine AllReadyH.cons rfl (fun K hK => ?_) AllReadyH.nil
          go_simp
          refine hK.out _ _ ?_ (fun hHeld => ?_)
          · exact ⟨HEF.out, HMF.out⟩
          clear hK K
          try simp only [Act.put, List.getElem_toArray, List.getElem_cons_zero, List.getElem_cons_succ, List.setIfInBounds_toArray, List.set_cons_zero, List.set_cons_succ]
          refine wpAnyH_take (i := 4) (v := .slice A5 bl c5) rfl (by kernel_rfl) (by kernel_rfl) (by kernel_rfl) (fun _ _ _ h => h) (Or.inl ⟨by rfl, fun w hS => by first | (go_simp; done) | (go_simp; with_reducible rfl)⟩) hHeld ?_
          try simp only [Act.put, List.getElem_toArray, List.getElem_cons_zero, List.getElem_cons_succ, List.setIfInBounds_toArray, List.set_cons_zero, List.set_cons_succ]
          refine wpAnyH_done (by kernel_rfl) ?_ _
          go_wp2_with fail
          refine bodyPost_ret (res_read _ HZF.out rfl) rfl ?_
          refine readIQ_ok HBF.out HPR.out ⟨HE0'.out, HRR.out⟩ ⟨A2, c2, by rw [HSF.out, HTN.out, HEV.out], HEA.out.1.tn HTF.out (fun ad e => by have := HEA.out.2.2 ad e; have := HBN.out; omega), by rw [HTN.out]; exact HEA.out.2.1, fun ad e => by have := HEA.out.2.2 ad e; have := HBN.out; omega⟩ ?_
          have := HOF.out
          unfold Own5
          rw [HBL.out] at this ⊢
          exact this
        · have hrb : (repS en b == r) = false := beq_eq_false_iff_ne.2 hrr
          rw [hrb] at HEQ
          have HRR := Lib.hid hrr
          clear hrr hrb
          go_wp2_with fail
          refine HEQ.out.mono ?_
          rintro e w3 ⟨rfl, rfl⟩
          go_wp2_with (first
            | (go_at_call 46; refine (Fa.mnd_f (by first | rfl | (simp; done)) _).mono ?_; rintro e w' ⟨rfl, rfl⟩)
            | fail)
          exact ⟨rfl, readIQ_bad2 HB2.out HPR.out (fun hc => HRR.out hc.2)⟩
      · have he : ((errS en b : Nat) : Int) ≠ 0 := by omega
        have heb : (((errS en b : Nat) : Int) == 0) = false := beq_eq_false_iff_ne.2 he
        have HNE := Lib.hid h0
        clear h0 he
        generalize her : errS en b = er at *
        have HER := Lib.hid her
        clear her
        go_wp2_with (first
          | (go_at_call 46; refine (Fa.mnd_f (by first | rfl | (simp; done)) _).mono ?_; rintro e w' ⟨rfl, rfl⟩)
          | fail)
        exact ⟨rfl, readIQ_bad2 HB2.out HPR.out (fun hc => HNE.out (by rw [← HER.out]; exact hc.1))⟩
end Mi
end Go.Proofs.YtamekflgidfnfaaGreatDoor
