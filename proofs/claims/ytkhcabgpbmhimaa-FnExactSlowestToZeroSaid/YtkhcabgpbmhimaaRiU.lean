
/-
  A STEP, THE PROGRAM's WAY: the closure that stepFor gives; stepFor; the list of a row; RingStep.
-/
import Derived.Test.YtkhcabgpbmhimaaRiT
import Derived.Test.YtkhcabgpbmhimaaApp
namespace Go.Proofs.Ytkhcabgpbmhimaa
open Go.RowKit Go.Deep
set_option linter.unusedVariables false

/-- The two variables of a step: the differences, the size. -/
def StepAt (w : World) (bd bs : Nat) (n : Nat) : Prop :=
  w.cell? ⟨bd, 0, none⟩ = some (.func (.func 31) #[] #[]) ∧ w.cell? ⟨bs, 0, none⟩ = some (.int .i64 (n : Int)) ∧ bd < w.heap.size ∧ bs < w.heap.size
theorem StepAt.next {w w' : World} {bd bs n : Nat} (h : StepAt w bd bs n) (hb : Below w.heap.size w w') : StepAt w' bd bs n :=
  ⟨(hb.cell (p := ⟨bd, 0, none⟩) h.2.2.1).trans h.1, (hb.cell (p := ⟨bs, 0, none⟩) h.2.2.2).trans h.2.1, Nat.lt_of_lt_of_le h.2.2.1 hb.size, Nat.lt_of_lt_of_le h.2.2.2 hb.size⟩
theorem StepAt.same {w w' : World} {bd bs n : Nat} (h : StepAt w bd bs n) (h1 : w'.heap[bd]? = w.heap[bd]?) (h2 : w'.heap[bs]? = w.heap[bs]?) (h3 : w.heap.size ≤ w'.heap.size) : StepAt w' bd bs n :=
  ⟨(cell_of_block (p := ⟨bd, 0, none⟩) h1).trans h.1, (cell_of_block (p := ⟨bs, 0, none⟩) h2).trans h.2.1, Nat.lt_of_lt_of_le h.2.2.1 h3, Nat.lt_of_lt_of_le h.2.2.2 h3⟩
/-- The value of a step. -/
def stepV (bd bs : Nat) : Value := .func (.func 33) #[] #[.pointer (some ⟨bd, 0, none⟩), .pointer (some ⟨bs, 0, none⟩)]

theorem tail_of {zs ys : List Int} {n : Nat} (h : zs = ys.take n) (hn : n ≤ ys.length) (h1 : 1 ≤ n) : ys.getD 0 0 :: ((ys.drop 1).take (n - 1)) = zs := by
  subst h
  cases ys with
  | nil => simp at hn; omega
  | cons y ys =>
    cases n with
    | zero => omega
    | succ n => simp

theorem ints_under : Try.prog.underlying 22 = some (.slice (Try.prog.elem 22)) := by kernel_rfl
theorem ints_size (W : World) : (sizeOf (Try.prog.elem 22)).run Try.prog W = .ok 1 W := by
  rw [show Try.prog.elem 22 = 3 from by kernel_rfl]
  have h := infoInt
  cases hq : Try.prog.info? 3 with
  | none => rw [hq] at h; simp at h
  | some i =>
    rw [hq] at h
    simp at h
    simp [sizeOf, typeInfo, hq, Sem.run_bind, h]
/-- A part with its room told. -/
theorem cut3 (ad : Addr) (n c m : Nat) (h1 : 2 ≤ m) (h2 : m ≤ c) (W : World) :
    (Instr.sliceAt 22 (.slice (some ad) n c) (some (.int .i64 1)) (some (.int .i64 (m : Int))) (some (.int .i64 (m : Int)))).run Try.prog W = .ok (.slice (some (ad.add 1)) (m - 1) (m - 1)) W := by
  rw [run_sliceAt_slice W _ _ _ _ _ ints_under, run_slice_lhm W 22 (some ad) n c ints_under .i64 .i64 .i64 1 m m (by omega) (by omega) (by omega) (by omega), ints_size]
  simp [sliced, show ¬ m = 1 by omega]

set_option maxRecDepth 100000 in
set_option maxHeartbeats 1000000 in
/-- The closure that stepFor gives: a step of the first numbers of a list. -/
theorem stepFn_any (A : Option Addr) (n c B bd bs m : Nat) (ys zs : List Int) (w : World) (hr : Ints w B A n ys) (hB : B ≤ w.heap.size) (hs : StepAt w bd bs m) (hz : zs = ys.take m) (hm : 2 ≤ m ∧ m ≤ 10) (hmn : m ≤ n) (hnc : n ≤ c) (hcm : c ≤ maxLen) (hc : within 0 1000 zs = true) :
    Calls Try.prog 33 #[.slice A n c, .pointer (some ⟨bd, 0, none⟩), .pointer (some ⟨bs, 0, none⟩)] w fun e w' => e = .returned (aggA (pad10 (rstep zs))) ∧ Below w.heap.size w w' := by
  obtain rfl := hr.len
  obtain ⟨hm1, hm2⟩ := hm
  have HTL := hide (tail_of hz hmn (by omega))
  have hzlen := hide (show zs.length = m by rw [hz, List.length_take]; omega)
  have HPL := hide (pad10_len (zs := rstep zs) (by rw [rstep_length, hzlen.out]; exact hm2))
  clear hz
  obtain ⟨ad, rfl, hab, hcell0⟩ := hr.at_ (show 0 < ys.length by omega)
  have hadd : ad.add 0 = ad := by simp [Addr.add]
  rw [hadd] at hcell0
  have hdr := (hr.dropAt (i := 1) (by omega)).takeAt (i := m - 1) (by omega)
  have HDR := hide hdr
  have HW := hide hc
  have HS := hide hs
  have hzl := hide zero10_len
  clear hr hdr hc hs hadd
  generalize hy0 : ys.getD 0 0 = y0 at *
  clear hy0
  generalize (ys.drop 1).take (m - 1) = os at *
  go_enter Try.func33, Try.ntmps33
  go_wp2_with (with_reducible refine wpList_arr_new (o := ⟨some 4, _, _, _, _, _⟩) rfl rfl ?_; intro w1 hL1' hb1 hs1; have A1 := hide hL1'; have B1 := hide hb1; have S1 := hide hs1; clear hL1' hb1 hs1)
  have hc1 := (B1.out.cell (p := ad) (by omega)).trans hcell0
  have hd1 := (HS.out.next B1.out).1
  have hd2 := (HS.out.next B1.out).2.1
  unfold maxLen at hcm
  have hcut := cut3 ad ys.length c m hm1 (by omega)
  have h0y : 0 < ys.length := by omega
  clear hcell0
  go_still_tail 8, (by kernel_rfl)
  change wpList _ _ _ _ _ w1.drew
  have HD := hide (differences_any (some (ad.add 1)) (m - 1) B y0 os zs w1.drew ((HDR.out.below B1.out hB).drew) (Nat.le_trans hB B1.out.size) (by omega) (by omega) HTL.out HW.out)
  go_wp2_with fail
  refine HD.out.mono ?_; rintro e w2 ⟨rfl, hb2⟩
  have B2 := hide (B1.out.trans ((show Below w1.heap.size w1 w2 from (Below.refl _ _).drew.trans hb2).mono B1.out.size))
  have A2 := hide (A1.out.next (show Below w1.heap.size w1 w2 from (Below.refl _ _).drew.trans hb2))
  clear hb2
  go_wp2_with (with_reducible refine wpList_arr_store rfl (.tmp 4) (.tmp 13) rfl w.heap.size _ _ (pad10 (rstep zs)) rfl rfl HPL.out hzl.out A2.out ?_; intro w5 hL5 ho5)
  exact bodyPost_ret (results_arr1 rfl _ _ _ _ _ rfl HPL.out hL5) rfl ⟨rfl, B2.out.trans ho5.below⟩

/-- WHAT stepFor LEAVES. -/
def Stepped (n : Nat) (w : World) (e : Ending) (w' : World) : Prop := ∃ bd bs, e = .returned (.func (.func 33) #[] #[.pointer (some ⟨bd, 0, none⟩), .pointer (some ⟨bs, 0, none⟩)]) ∧ w.heap.size ≤ bd ∧ w.heap.size ≤ bs ∧ StepAt w' bd bs n ∧ Below w.heap.size w w'
theorem stepFor_any (n : Nat) (w : World) : Calls Try.prog 24 #[.int .i64 (n : Int)] w (Stepped n w) := by
  have hmf : ∀ (fn : Fn) (first cap : Array Value) (w : World), (Instr.makeFunc fn first cap).run Try.prog w = .ok (.func fn first cap) w := fun _ _ _ _ => rfl
  go_enter Try.func24, Try.ntmps24
  go_wp2_with fail
  go_ret
  exact ⟨w.heap.size + 1, w.heap.size, rfl, by omega, by omega, ⟨by simp, by simp, by first | (simp; done) | (simp; omega), by first | (simp; done) | (simp; omega)⟩, (((Below.refl _ _).alloc (Nat.le_refl _) _).alloc (by simp) _)⟩

end Go.Proofs.Ytkhcabgpbmhimaa
