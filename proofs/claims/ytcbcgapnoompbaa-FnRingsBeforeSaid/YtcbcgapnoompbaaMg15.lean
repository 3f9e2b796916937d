import Derived.Test.YtcbcgapnoompbaaMg13
import Derived.Test.YtcbcgapnoompbaaMg14
import Derived.Shelf.Small.Bits
import Derived.Shelf.Strconv.Itoa0
import Derived.Shelf.Slices.Reverse
import Derived.Ground.Names2Prog
import Derived.Shelf.Slices.Clone
import Derived.Shelf.Slices.SearchI
import Derived.Shelf.Slices.Cells
import Derived.Ground.SlgnProg
import Derived.Shelf.SlicesE.Clone
import Derived.Ground.SlsfProg
import Derived.Shelf.SlSortCmp.Insertion
import Derived.Shelf.SlSortCmp.SiftDown1
import Derived.Shelf.SlSortCmp.HeapSort1
import Derived.Shelf.SlSortCmp.Insertion1
import Derived.Shelf.SlSortCmp.Median1
import Derived.Shelf.SlSortCmp.Pivot1
import Derived.Shelf.SlSortCmp.ReverseRange1
import Derived.Shelf.SlSortCmp.PartialInsertion1
import Derived.Shelf.SlSortCmp.PartitionEqual1
import Derived.Shelf.SlSortCmp.Partition1
import Derived.Shelf.SlSortCmp.Pdq1
import Derived.Shelf.SlSortCmp.Whole1
import Derived.Shelf.SlSortCmp.NoneTotal
import Derived.Test.YtcbcgapnoompbaaProg

/-
  A STEP, THE PROGRAM's WAY: the closure that stepFor gives; stepFor; the list of a row; RingStep.
-/
namespace Go.Proofs.Ytcbcgapnoompbaa
open Go.RowKit Go.Deep
set_option linter.unusedVariables false

/-- The two variables of a step: the differences, the size. -/
def StepAt (w : World) (bd bs : Nat) (n : Nat) : Prop :=
  w.cell? ⟨bd, 0, none⟩ = some (.func (.func 70) #[] #[]) ∧ w.cell? ⟨bs, 0, none⟩ = some (.int .i64 (n : Int)) ∧ bd < w.heap.size ∧ bs < w.heap.size
theorem StepAt.next {w w' : World} {bd bs n : Nat} (h : StepAt w bd bs n) (hb : Below w.heap.size w w') : StepAt w' bd bs n :=
  ⟨(hb.cell (p := ⟨bd, 0, none⟩) h.2.2.1).trans h.1, (hb.cell (p := ⟨bs, 0, none⟩) h.2.2.2).trans h.2.1, Nat.lt_of_lt_of_le h.2.2.1 hb.size, Nat.lt_of_lt_of_le h.2.2.2 hb.size⟩
theorem StepAt.same {w w' : World} {bd bs n : Nat} (h : StepAt w bd bs n) (h1 : w'.heap[bd]? = w.heap[bd]?) (h2 : w'.heap[bs]? = w.heap[bs]?) (h3 : w.heap.size ≤ w'.heap.size) : StepAt w' bd bs n :=
  ⟨(cell_of_block (p := ⟨bd, 0, none⟩) h1).trans h.1, (cell_of_block (p := ⟨bs, 0, none⟩) h2).trans h.2.1, Nat.lt_of_lt_of_le h.2.2.1 h3, Nat.lt_of_lt_of_le h.2.2.2 h3⟩
/-- The value of a step. -/
def stepV (bd bs : Nat) : Value := .func (.func 72) #[] #[.pointer (some ⟨bd, 0, none⟩), .pointer (some ⟨bs, 0, none⟩)]

theorem tail_of {zs ys : List Int} {n : Nat} (h : zs = ys.take n) (hn : n ≤ ys.length) (h1 : 1 ≤ n) : ys.getD 0 0 :: ((ys.drop 1).take (n - 1)) = zs := by
  subst h
  cases ys with
  | nil => simp at hn; omega
  | cons y ys =>
    cases n with
    | zero => omega
    | succ n => simp

theorem ints_under : Try.prog.underlying 24 = some (.slice (Try.prog.elem 24)) := by kernel_rfl
theorem ints_size (W : World) : (sizeOf (Try.prog.elem 24)).run Try.prog W = .ok 1 W := by
  rw [show Try.prog.elem 24 = 3 from by kernel_rfl]
  have h := infoInt
  cases hq : Try.prog.info? 3 with
  | none => rw [hq] at h; simp at h
  | some i =>
    rw [hq] at h
    simp at h
    simp [sizeOf, typeInfo, hq, Sem.run_bind, h]
/-- A part with its room told. -/
theorem cut3 (ad : Addr) (n c m : Nat) (h1 : 2 ≤ m) (h2 : m ≤ c) (W : World) :
    (Instr.sliceAt 24 (.slice (some ad) n c) (some (.int .i64 1)) (some (.int .i64 (m : Int))) (some (.int .i64 (m : Int)))).run Try.prog W = .ok (.slice (some (ad.add 1)) (m - 1) (m - 1)) W := by
  rw [run_sliceAt_slice W _ _ _ _ _ ints_under, run_slice_lhm W 24 (some ad) n c ints_under .i64 .i64 .i64 1 m m (by omega) (by omega) (by omega) (by omega), ints_size]
  simp [sliced, show ¬ m = 1 by omega]

set_option maxRecDepth 100000 in
set_option maxHeartbeats 1000000 in
/-- The closure that stepFor gives: a step of the first numbers of a list. -/
theorem stepFn_any (A : Option Addr) (n c B bd bs m : Nat) (ys zs : List Int) (w : World) (hr : Ints w B A n ys) (hB : B ≤ w.heap.size) (hs : StepAt w bd bs m) (hz : zs = ys.take m) (hm : 2 ≤ m ∧ m ≤ 10) (hmn : m ≤ n) (hnc : n ≤ c) (hcm : c ≤ maxLen) (hc : within 0 1000 zs = true) :
    Calls Try.prog 72 #[.slice A n c, .pointer (some ⟨bd, 0, none⟩), .pointer (some ⟨bs, 0, none⟩)] w fun e w' => e = .returned (aggA (pad10 (rstep zs))) ∧ Below w.heap.size w w' := by
  obtain rfl := hr.len
  obtain ⟨hm1, hm2⟩ := hm
  have HTL := hide (tail_of hz hmn (by omega))
  have hzlen := hide (show zs.length = m by rw [hz, List.length_take]; omega)
  have HPL := hide (pad10_len (zs := rstep zs) (by rw [rstep_length, hzlen.out]; exact hm2))
  clear hz
  obtain ⟨ad, rfl, hab, hcell0⟩ := hr.at_ (show 0 < ys.length by omega)
  have hadd : ad.add 0 = ad := by simp [Addr.add]
  rw [hadd] at hcell0
  have hdr := (hr.dropAt (i := 1) (by omega)).takeAt (i := m - 1) (by omega)
  have HDR := hide hdr
  have HW := hide hc
  have HS := hide hs
  have hzl := hide zero10_len
  clear hr hdr hc hs hadd
  generalize hy0 : ys.getD 0 0 = y0 at *
  clear hy0
  generalize (ys.drop 1).take (m - 1) = os at *
  go_enter Try.func72, Try.ntmps72
  go_wp2_with (with_reducible refine wpList_arr_new (o := ⟨some 4, _, _, _, _, _⟩) rfl rfl ?_; intro w1 hL1' hb1 hs1; have A1 := hide hL1'; have B1 := hide hb1; have S1 := hide hs1; clear hL1' hb1 hs1)
  have hc1 := (B1.out.cell (p := ad) (by omega)).trans hcell0
  have hd1 := (HS.out.next B1.out).1
  have hd2 := (HS.out.next B1.out).2.1
  unfold maxLen at hcm
  have hcut := cut3 ad ys.length c m hm1 (by omega)
  have h0y : 0 < ys.length := by omega
  clear hcell0
  go_still_tail 8, (by kernel_rfl)
  change wpList _ _ _ _ _ w1.drew
  have HD := hide (differences_any (some (ad.add 1)) (m - 1) B y0 os zs w1.drew ((HDR.out.below B1.out hB).drew) (Nat.le_trans hB B1.out.size) (by omega) (by omega) HTL.out HW.out)
  go_wp2_with fail
  refine HD.out.mono ?_; rintro e w2 ⟨rfl, hb2⟩
  have B2 := hide (B1.out.trans ((show Below w1.heap.size w1 w2 from (Below.refl _ _).drew.trans hb2).mono B1.out.size))
  have A2 := hide (A1.out.next (show Below w1.heap.size w1 w2 from (Below.refl _ _).drew.trans hb2))
  clear hb2
  go_wp2_with (with_reducible refine wpList_arr_store rfl (.tmp 4) (.tmp 13) rfl w.heap.size _ _ (pad10 (rstep zs)) rfl rfl HPL.out hzl.out A2.out ?_; intro w5 hL5 ho5)
  exact bodyPost_ret (results_arr1 rfl _ _ _ _ _ rfl HPL.out hL5) rfl ⟨rfl, B2.out.trans ho5.below⟩

/-- WHAT stepFor LEAVES. -/
def Stepped (n : Nat) (w : World) (e : Ending) (w' : World) : Prop := ∃ bd bs, e = .returned (.func (.func 72) #[] #[.pointer (some ⟨bd, 0, none⟩), .pointer (some ⟨bs, 0, none⟩)]) ∧ w.heap.size ≤ bd ∧ w.heap.size ≤ bs ∧ StepAt w' bd bs n ∧ Below w.heap.size w w'
theorem stepFor_any (n : Nat) (w : World) : Calls Try.prog 43 #[.int .i64 (n : Int)] w (Stepped n w) := by
  have hmf : ∀ (fn : Fn) (first cap : Array Value) (w : World), (Instr.makeFunc fn first cap).run Try.prog w = .ok (.func fn first cap) w := fun _ _ _ _ => rfl
  go_enter Try.func43, Try.ntmps43
  go_wp2_with fail
  go_ret
  exact ⟨w.heap.size + 1, w.heap.size, rfl, by omega, by omega, ⟨by simp, by simp, by first | (simp; done) | (simp; omega), by first | (simp; done) | (simp; omega)⟩, (((Below.refl _ _).alloc (Nat.le_refl _) _).alloc (by simp) _)⟩

/-- The first numbers of a row. -/
theorem rowList_any (xs : List Int) (n : Nat) (w : World) (hx : xs.length = 10) (h0 : 0 < n) (hn : n ≤ 10) :
    Calls Try.prog 44 #[aggA xs, .int .i64 (n : Int)] w (Made1 (xs.take n) w) := by
  have hcut := fun b W => ring_cut b 0 n hn W
  have HX := hide hx
  have HL := hide (show (xs.take n).length = n by rw [List.length_take]; omega)
  have HI := hide (fun (W : World) (b : Nat) (h : ArrAt W b 55 xs) => h.ints n (by rw [HX.out]; exact hn))
  generalize xs.take n = fs at *
  clear hx
  go_enter Try.func44, Try.ntmps44
  go_wp2_with (with_reducible refine wpList_arr_box (o := ⟨some 2, _, _, _, _, _⟩) rfl _ _ rfl xs rfl ?_; intro w1 hL1' hb1 hs1; have A1 := hide hL1'; have B1 := hide hb1; clear hL1' hb1 hs1)
  refine (Clone_any (some ⟨w.heap.size, 0, none⟩) n 10 _ fs w1 (HI.out _ _ A1.out) (Nat.le_refl _) h0 (by omega)).mono ?_
  rintro e w2 ⟨g, c1, rfl, hg1, hg2, hc1, hc2, hown, hb2⟩
  go_wp2_with fail
  go_ret
  exact ⟨g, c1, rfl, Nat.le_trans B1.out.size hg1, hg2, hc1, hc2, hown.less B1.out.size, below_next B1.out hb2⟩

/-- The program's RingStep. -/
theorem RingStep_any (A : Option Addr) (n c B : Nat) (zs : List Int) (w : World) (hr : Ints w B A n zs) (hB : B ≤ w.heap.size) (hn : n ≤ 17592186044416) (hnc : n ≤ c) (hcm : c ≤ maxLen) :
    Calls Try.prog 12 #[.slice A n c] w (MadeR (rstepR zs) (rgood zs) w) := by
  obtain rfl := hr.len
  cases hg : rgood zs
  · rw [show rstepR zs = [] from by simp [rstepR, hg]]
    go_enter Try.func12, Try.ntmps12
    go_wp2_with fail
    refine (IsRing_any _ _ _ _ _ _ hr hn).mono ?_; rintro e w' ⟨rfl, rfl⟩; rw [hg]
    go_wp2_with fail
    go_ret2
    exact madeR_none (Below.refl _ _)
  · rw [show rstepR zs = rstep zs from by simp [rstepR, hg]]
    obtain ⟨hg1, hg2, hg3⟩ := rgood_of hg
    have HW := hide hg3
    have HE := hide (rstep_length zs)
    have HP := hide (pad10_len (zs := rstep zs) (by rw [rstep_length]; exact hg2))
    have HT := hide (show (pad10 (rstep zs)).take zs.length = rstep zs by have := pad10_take (rstep zs); rw [rstep_length] at this; exact this)
    clear hg3
    go_enter Try.func12, Try.ntmps12
    go_wp2_with fail
    refine (IsRing_any _ _ _ _ _ _ hr hn).mono ?_; rintro e w' ⟨rfl, rfl⟩; rw [hg]
    go_wp2_with fail
    refine (stepFor_any _ _).mono ?_; rintro e w1 ⟨bd, bs, rfl, _, _, hs1, hb1⟩
    have HS1 := hide hs1
    have HB1 := hide hb1
    have hz1 := hb1.size
    clear hs1 hb1
    go_wp2_with fail
    refine (stepFn_any A zs.length c B bd bs zs.length zs zs w1 (hr.below HB1.out hB) (by omega) HS1.out (by rw [List.take_length]) ⟨hg1, hg2⟩ (Nat.le_refl _) hnc hcm HW.out).mono ?_; rintro e w2 ⟨rfl, hb2⟩
    have HB2 := hide (below_next HB1.out hb2)
    clear hb2
    go_wp2_with fail
    refine (rowList_any (pad10 (rstep zs)) zs.length w2 HP.out (by omega) hg2).mono ?_
    rw [HT.out]
    rintro e w3 ⟨g, c1, rfl, hg1', hg2', hc1, hc2, hown, hb3⟩
    rw [HE.out] at hc1 hown
    rw [HE.out]
    go_wp2_with fail
    go_ret2
    exact ⟨_, c1, by rw [HE.out]; rfl, by rw [HE.out]; exact hc1, hc2, by rw [HE.out]; exact hown.less HB2.out.size, below_next HB2.out hb3⟩
theorem RingStep_w (A : Option Addr) (n c B : Nat) (zs : List Int) (w : World) (hr : Ints w B A n zs) (hB : B ≤ w.heap.size) (hn : n ≤ 17592186044416) (hnc : n ≤ c ∧ c ≤ maxLen := by unfold maxLen; omega) :
    Calls Try.prog 12 #[.slice A n c] w (MadeR (rstepR zs) (rgood zs) w) := RingStep_any A n c B zs w hr hB hn hnc.1 hnc.2
end Go.Proofs.Ytcbcgapnoompbaa

/-
  DERIVED: THE SHELF's CONTRACTS AT THIS DUMP, IN PLAIN WORDS (tools/lay-plain.mjs out of 'YtcbcgapnoompbaaShelfLaid.lean', which tools/lay-shelf.mjs wrote): THE SAME DECLARATIONS UNDER THE SAME NAMES: 'import', 'namespace', 'open', 'def', 'theorem' AND NOTHING ELSE: no command of the shelf's: FOR A HAND-IN. Each laying: the table of numbers ('.._ren') and one theorem, a field a fact of the dump's own or the kernel's comparison; each contract: ONE APPLICATION.
-/
namespace Go.Proofs
open Go.Shelf
def Try.lays112_ren : Go.Shelf.Ren := ⟨fun | 112 => 74 | n => n, fun | 28 => 24 | 3 => 3 | 4 => 4 | 0 => 0 | n => n, fun | n => n⟩
theorem Try.lays112 : Go.Proofs.Lays.n112 Try.prog Try.lays112_ren := {
  mixed := by kernel_rfl
  f112 := Try.func74.trans (congrArg some (by kernel_rfl))
  t0 := Try.underlying0
  a0 := Try.isAgg0
  z0 := Try.sizeOf0
  v0 := Try.zeroValue0
  t3 := Try.underlying3
  a3 := Try.isAgg3
  z3 := Try.sizeOf3
  v3 := Try.zeroValue3
  t4 := Try.underlying4
  a4 := Try.isAgg4
  z4 := Try.sizeOf4
  v4 := Try.zeroValue4
  t28 := Try.underlying24
  a28 := Try.isAgg24
  z28 := Try.sizeOf24
  v28 := Try.zeroValue24 }
open Go.RowKit Go.Lib Go.Sort in
/-- slices.Reverse at []int: "Reverse reverses the elements of the slice in place.": THE SLICE's CELLS HOLD 'zs.reverse' BEHIND THE CALL; all else is as it was, but for the count of draws (the exchange 's[i], s[j] = s[j], s[i]' draws its order, once a round). IN THE WORDS OF slices.Sort's CONTRACT: 'Holds': the cells hold zs and none is frozen; 'putRow': the world with those cells holding another array. A slice of length 0 that is not nil is among them ('zs = []'); nil: '.._nil'. (LAID: no walk: one application.) -/
theorem Try.slices_Reverse_int (blk off cap : Nat) (zs : List Int) (w : World) (hH : Holds (Value.int .i64) w blk off zs.toArray) (hsz : zs.length ≤ 9223372036854775807) :
    Calls Try.prog 74 #[.slice (some ⟨blk, off, none⟩) zs.length cap] w fun e w' => e = .returned (.tuple #[]) ∧ ∃ n, w' = putRow (Value.int .i64) (Sort.ahead w n) blk off zs.reverse.toArray := Any.slices_Reverse_int Try.lays112 blk off cap zs w hH hsz
end Go.Proofs
