
/-
  A LINE'S CHIPS HANDED OUT, AND WHAT IS LOST.
-/
import Derived.Test.YtpcckckmloeanaaLn
import Derived.Deep.RegionWith
namespace Go.Proofs.Ytpcckckmloeanaa
open Go.RowKit Go.Deep
set_option linter.unusedVariables false

theorem add_mid (b o j : Nat) : (⟨b, o, none⟩ : Addr).add j = ⟨b, o + j, none⟩ := by unfold Addr.add; split <;> simp_all
theorem lineL_ints {w : World} {b : Nat} {t : TypeId} {zs ts : List Int} (h : LineAt w b t (lineL zs ts)) (h20 : zs.length ≤ 20) : Ints w w.heap.size (some ⟨b, 2, none⟩) zs.length (chipsOf zs ts) := by
  refine ⟨chipsOf_length _ _, fun _ => ⟨_, rfl, h.lt, fun k hk => ?_⟩⟩
  rw [add_mid, chipsOf_getD _ _ _ hk]
  have := lineL_cell h (k + 1) (by omega)
  rwa [show 1 + (k + 1) = 2 + k from by omega] at this

theorem chipRow_under : Try.prog.underlying 29 = some (.array (Try.prog.arrayLen 29) (Try.prog.elem 29)) := by kernel_rfl
theorem chipRow_len : Try.prog.arrayLen 29 = 22 := by kernel_rfl
theorem chipRow_size (W : World) : (sizeOf (Try.prog.elem 29)).run Try.prog W = .ok 1 W := by
  rw [show Try.prog.elem 29 = 3 from by kernel_rfl]
  have h := infoInt
  cases hq : Try.prog.info? 3 with
  | none => rw [hq] at h; simp at h
  | some i =>
    rw [hq] at h
    simp at h
    simp [sizeOf, typeInfo, hq, Sem.run_bind, h]
/-- A cut out of the row. -/
theorem row_cut (b n : Nat) (h20 : n ≤ 20) (W : World) :
    (Instr.sliceAt 29 (.pointer (some ⟨b, 1, none⟩)) (some (.int .i64 1)) (some (.int .i64 ((n : Int) + 1))) none).run Try.prog W = .ok (.slice (some ⟨b, 2, none⟩) n 21) W := by
  rw [run_sliceAt_array_lh W 29 ⟨b, 1, none⟩ chipRow_under .i64 .i64 1 ((n : Int) + 1) (by omega) (by omega) (by rw [chipRow_len]; omega), chipRow_size]
  simp [slicedAt, chipRow_len, add_mid]

end Go.Proofs.Ytpcckckmloeanaa
