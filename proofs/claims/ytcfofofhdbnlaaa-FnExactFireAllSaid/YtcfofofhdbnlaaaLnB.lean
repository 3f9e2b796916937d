
/-
  A LINE'S CHIPS HANDED OUT, AND WHAT IS LOST.
-/
import Derived.Test.YtcfofofhdbnlaaaLn
import Derived.Deep.RegionWith
namespace Go.Proofs.Ytcfofofhdbnlaaa
open Go.RowKit Go.Deep
set_option linter.unusedVariables false

theorem add_mid (b o j : Nat) : (⟨b, o, none⟩ : Addr).add j = ⟨b, o + j, none⟩ := by unfold Addr.add; split <;> simp_all
theorem lineL_ints {w : World} {b : Nat} {t : TypeId} {zs ts : List Int} (h : LineAt w b t (lineL zs ts)) (h20 : zs.length ≤ 20) : Ints w w.heap.size (some ⟨b, 2, none⟩) zs.length (chipsOf zs ts) := by
  refine ⟨chipsOf_length _ _, fun _ => ⟨_, rfl, h.lt, fun k hk => ?_⟩⟩
  rw [add_mid, chipsOf_getD _ _ _ hk]
  have := lineL_cell h (k + 1) (by omega)
  rwa [show 1 + (k + 1) = 2 + k from by omega] at this

theorem chipRow_under : Try.prog.underlying 39 = some (.array (Try.prog.arrayLen 39) (Try.prog.elem 39)) := by kernel_rfl
theorem chipRow_len : Try.prog.arrayLen 39 = 22 := by kernel_rfl
theorem chipRow_size (W : World) : (sizeOf (Try.prog.elem 39)).run Try.prog W = .ok 1 W := by
  rw [show Try.prog.elem 39 = 3 from by kernel_rfl]
  have h := infoInt
  cases hq : Try.prog.info? 3 with
  | none => rw [hq] at h; simp at h
  | some i =>
    rw [hq] at h
    simp at h
    simp [sizeOf, typeInfo, hq, Sem.run_bind, h]
/-- A cut out of the row. -/
theorem row_cut (b n : Nat) (h20 : n ≤ 20) (W : World) :
    (Instr.sliceAt 39 (.pointer (some ⟨b, 1, none⟩)) (some (.int .i64 1)) (some (.int .i64 ((n : Int) + 1))) none).run Try.prog W = .ok (.slice (some ⟨b, 2, none⟩) n 21) W := by
  rw [run_sliceAt_array_lh W 39 ⟨b, 1, none⟩ chipRow_under .i64 .i64 1 ((n : Int) + 1) (by omega) (by omega) (by rw [chipRow_len]; omega), chipRow_size]
  simp [slicedAt, chipRow_len, add_mid]

theorem list_any (b : Nat) (t : TypeId) (zs ts : List Int) (w : World) (hL : LineAt w b t (lineL zs ts)) (h0 : 0 < zs.length) (h20 : zs.length ≤ 20) :
    Calls Try.prog 24 #[.pointer (some ⟨b, 0, none⟩)] w (Made1 (chipsOf zs ts) w) := by
  have hc0 := lineL_places hL
  have HI := hide (lineL_ints hL h20)
  have HC := hide (fun (W : World) (hb : Below w.heap.size w W) => Clone_any (some ⟨b, 2, none⟩) zs.length 21 _ (chipsOf zs ts) W (HI.out.below hb (Nat.le_refl _)) hb.size h0 (by omega))
  have HL := hide (chipsOf_length zs ts)
  have hw : IntKind.i64.wrap ((zs.length : Int) + 1) = (zs.length : Int) + 1 := by rw [IntWalk.i64_in _ (by omega)]
  have hcut := row_cut b zs.length h20
  clear hL
  go_enter Try.func24, Try.ntmps24
  go_wp2_with fail
  go_region_with (go_at_call 35; refine (HC.out _ (Below.refl _ _).drew).mono ?_; rintro e w1 ⟨g, c1, rfl, hg1, hg2, hc1, hc2, hown, hb1⟩)
  all_goals
    go_wp2_with fail
    go_ret
    exact ⟨g, c1, by rw [HL.out]; rfl, hg1, hg2, hc1, hc2, hown, (Below.refl _ _).drew.trans hb1⟩

theorem lostLeft_any (b : Nat) (t : TypeId) (zs ts : List Int) (w : World) (hL : LineAt w b t (lineL zs ts)) :
    Calls Try.prog 36 #[.pointer (some ⟨b, 0, none⟩)] w fun e w' => e = .returned (.int .i64 (rowAt zs ts 0)) ∧ w = w' := by
  have hc0 := lineL_cell hL 0 (by omega)
  clear hL
  generalize rowAt zs ts 0 = x at *
  go_enter Try.func36, Try.ntmps36
  go_wp2_with fail
  go_ret
  exact ⟨rfl, rfl⟩

theorem lostRight_any (b : Nat) (t : TypeId) (zs ts : List Int) (w : World) (hL : LineAt w b t (lineL zs ts)) (h20 : zs.length ≤ 20) :
    Calls Try.prog 37 #[.pointer (some ⟨b, 0, none⟩)] w fun e w' => e = .returned (.int .i64 (rowAt zs ts (zs.length + 1))) ∧ Below w.heap.size w w' := by
  have hc0 := lineL_places hL
  have hc1 := lineL_cell hL (zs.length + 1) (by omega)
  have h20i : (zs.length : Int) ≤ 20 := by omega
  have hw : IntKind.i64.wrap ((zs.length : Int) + 1) = ((zs.length + 1 : Nat) : Int) := by rw [IntWalk.i64_in _ (by omega)]; omega
  have h20j : ((zs.length + 1 : Nat) : Int) < 22 := by omega
  clear hL
  generalize rowAt zs ts (zs.length + 1) = x at *
  go_enter Try.func37, Try.ntmps37
  go_wp2_with fail
  go_region
  all_goals
    go_wp2_with fail
    go_ret
    exact ⟨rfl, (Below.refl _ _).drew⟩

theorem lost_any (b : Nat) (t : TypeId) (zs ts : List Int) (w : World) (hL : LineAt w b t (lineL zs ts)) (h20 : zs.length ≤ 20) (h1 : -1000000 ≤ rowAt zs ts 0) (h2 : rowAt zs ts 0 ≤ 1000000) (h3 : -1000000 ≤ rowAt zs ts (zs.length + 1)) (h4 : rowAt zs ts (zs.length + 1) ≤ 1000000) :
    Calls Try.prog 25 #[.pointer (some ⟨b, 0, none⟩)] w fun e w' => e = .returned (.int .i64 (rowAt zs ts 0 + rowAt zs ts (zs.length + 1))) ∧ Below w.heap.size w w' := by
  have H1 := hide (lostLeft_any b t zs ts w hL)
  have H2 := hide (lostRight_any b t zs ts w hL h20)
  clear hL
  generalize rowAt zs ts 0 = x at *
  generalize rowAt zs ts (zs.length + 1) = y at *
  go_enter Try.func25, Try.ntmps25
  go_wp2_with fail
  refine H1.out.mono ?_; rintro e w' ⟨rfl, rfl⟩
  go_wp2_with fail
  refine H2.out.mono ?_; rintro e w2 ⟨rfl, ho⟩
  go_wp2_with fail
  go_ret
  exact ⟨rfl, ho⟩
end Go.Proofs.Ytcfofofhdbnlaaa
