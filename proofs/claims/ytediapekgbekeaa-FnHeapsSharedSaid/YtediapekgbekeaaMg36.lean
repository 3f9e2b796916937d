import Derived.Shelf.Sort.Plain
import Derived.Test.YtediapekgbekeaaProg
import Derived.Test.YtediapekgbekeaaMg35
import Derived.Test.YtediapekgbekeaaMg17
import Derived.Sort.OwnSortedInts

/-
  DERIVED: THE SHELF's CONTRACTS AT THIS DUMP, IN PLAIN WORDS (tools/lay-plain.mjs out of 'YtediapekgbekeaaShelfLaid.lean', which tools/lay-shelf.mjs wrote): THE SAME DECLARATIONS UNDER THE SAME NAMES: 'import', 'namespace', 'open', 'def', 'theorem' AND NOTHING ELSE: no command of the shelf's: FOR A HAND-IN. Each laying: the table of numbers ('.._ren') and one theorem, a field a fact of the dump's own or the kernel's comparison; each contract: ONE APPLICATION.
-/
namespace Go.Proofs
open Go.Shelf
def Try.lays189_ren : Go.Shelf.Ren := ⟨fun | 189 => 49 | 125 => 64 | 257 => 63 | 128 => 82 | 129 => 83 | 294 => 73 | 295 => 74 | 296 => 75 | 297 => 76 | 298 => 77 | 299 => 78 | 216 => 79 | 300 => 80 | 301 => 81 | 328 => 86 | 329 => 87 | 330 => 88 | 331 => 89 | 332 => 90 | 215 => 91 | 343 => 92 | n => n, fun | 28 => 24 | 3 => 3 | 46 => 67 | 0 => 0 | 51 => 81 | 53 => 59 | 4 => 4 | 183 => 75 | 182 => 74 | 131 => 29 | 5 => 5 | 9 => 9 | 218 => 84 | 222 => 88 | 228 => 91 | 229 => 92 | n => n, fun | n => n⟩
theorem Try.lays189 : Go.Proofs.Lays.n189 Try.prog Try.lays189_ren := {
  mixed := by kernel_rfl
  f125 := Try.func64.trans (congrArg some (by kernel_rfl))
  f128 := Try.func82.trans (congrArg some (by kernel_rfl))
  f129 := Try.func83.trans (congrArg some (by kernel_rfl))
  f189 := Try.func49.trans (congrArg some (by kernel_rfl))
  f215 := Try.func91.trans (congrArg some (by kernel_rfl))
  f216 := Try.func79.trans (congrArg some (by kernel_rfl))
  f257 := Try.func63.trans (congrArg some (by kernel_rfl))
  f294 := Try.func73.trans (congrArg some (by kernel_rfl))
  f295 := Try.func74.trans (congrArg some (by kernel_rfl))
  f296 := Try.func75.trans (congrArg some (by kernel_rfl))
  f297 := Try.func76.trans (congrArg some (by kernel_rfl))
  f298 := Try.func77.trans (congrArg some (by kernel_rfl))
  f299 := Try.func78.trans (congrArg some (by kernel_rfl))
  f300 := Try.func80.trans (congrArg some (by kernel_rfl))
  f301 := Try.func81.trans (congrArg some (by kernel_rfl))
  f328 := Try.func86.trans (congrArg some (by kernel_rfl))
  f329 := Try.func87.trans (congrArg some (by kernel_rfl))
  f330 := Try.func88.trans (congrArg some (by kernel_rfl))
  f331 := Try.func89.trans (congrArg some (by kernel_rfl))
  f332 := Try.func90.trans (congrArg some (by kernel_rfl))
  f343 := Try.func92.trans (congrArg some (by kernel_rfl))
  t0 := Try.underlying0
  a0 := Try.isAgg0
  z0 := Try.sizeOf0
  v0 := Try.zeroValue0
  t3 := Try.underlying3
  a3 := Try.isAgg3
  z3 := Try.sizeOf3
  v3 := Try.zeroValue3
  t4 := Try.underlying4
  a4 := Try.isAgg4
  z4 := Try.sizeOf4
  v4 := Try.zeroValue4
  t5 := Try.underlying5
  a5 := Try.isAgg5
  z5 := Try.sizeOf5
  v5 := Try.zeroValue5
  t9 := Try.underlying9
  a9 := Try.isAgg9
  z9 := Try.sizeOf9
  v9 := Try.zeroValue9
  t28 := Try.underlying24
  a28 := Try.isAgg24
  z28 := Try.sizeOf24
  v28 := Try.zeroValue24
  t46 := Try.underlying67
  a46 := Try.isAgg67
  z46 := Try.sizeOf67
  v46 := Try.zeroValue67
  t51 := Try.underlying81
  a51 := Try.isAgg81
  z51 := Try.sizeOf81
  v51 := Try.zeroValue81
  t53 := Try.underlying59
  a53 := Try.isAgg59
  z53 := Try.sizeOf59
  v53 := Try.zeroValue59
  t131 := Try.underlying29
  a131 := Try.isAgg29
  z131 := Try.sizeOf29
  v131 := Try.zeroValue29
  t182 := Try.underlying74
  a182 := Try.isAgg74
  z182 := Try.sizeOf74
  v182 := Try.zeroValue74
  t183 := Try.underlying75
  a183 := Try.isAgg75
  z183 := Try.sizeOf75
  v183 := Try.zeroValue75
  t218 := Try.underlying84
  a218 := Try.isAgg84
  z218 := Try.sizeOf84
  v218 := Try.zeroValue84
  t222 := Try.underlying88
  a222 := Try.isAgg88
  z222 := Try.sizeOf88
  v222 := Try.zeroValue88
  t228 := Try.underlying91
  a228 := Try.isAgg91
  z228 := Try.sizeOf91
  v228 := Try.zeroValue91
  t229 := Try.underlying92
  a229 := Try.isAgg92
  z229 := Try.sizeOf92
  v229 := Try.zeroValue92 }
open Go.Sort Go.RowKit in
theorem Try.slices_Sort_int (blk off cap : Nat) (zs : List Int) (w : World) (hH : Holds (Value.int .i64) w blk off zs.toArray) (hblk : blk < w.heap.size) (hsz : zs.length < 4611686018427387904) :
    Calls Try.prog 49 #[.slice (some ⟨blk, off, none⟩) zs.length cap] w fun e w' =>
      e = .returned (.tuple #[]) ∧ ∃ n os, w' = grow (putRow (Value.int .i64) (Sort.ahead w n) blk off (zs.mergeSort fun x y => decide (x ≤ y)).toArray) os := Any.slices_Sort_int Try.lays189 blk off cap zs w hH hblk hsz
end Go.Proofs

/-
  FLOWS AROUND A RING, BOTH WAYS: RingFlows, RingDistance.
-/
namespace Go.Proofs.Ytediapekgbekeaa
open Go.RowKit Go.Deep Go.Sort

theorem Own.row {w : World} {base g n c : Nat} {e : TypeId} {zs : List Int} (h : Own w base e (.slice (some ⟨g, 0, none⟩) n c) zs) :
    n = zs.length ∧ ∃ cur, base ≤ g ∧ w.heap[g]? = some (.cells cur e (0, 0)) ∧ zs.length ≤ c ∧ c ≤ maxLen ∧ cur.size = c * 1 ∧ cur.toList.take zs.length = zs.map (Value.int .i64) := by
  rcases h.2 with ⟨h1, _⟩ | ⟨g', c', cur, h1, hb, hg, hn, hm, hs, ht⟩
  · cases h1
  · cases h1
    exact ⟨rfl, cur, hb, hg, hn, hm, hs, by simpa using ht⟩

theorem Own.keepAt {w w' : World} {base g n c : Nat} {e : TypeId} {zs : List Int} (h : Own w base e (.slice (some ⟨g, 0, none⟩) n c) zs) (hk : w'.heap[g]? = w.heap[g]?) : Own w' base e (.slice (some ⟨g, 0, none⟩) n c) zs := by
  refine ⟨h.1, ?_⟩
  rcases h.2 with ⟨h1, _⟩ | ⟨g', cap, cur, h1, hb, hg, r⟩
  · cases h1
  · cases h1
    exact .inr ⟨g, c, cur, rfl, hb, hk.trans hg, r⟩

/-- WHAT THE SORT LEAVES of a list of the call's own: the same row in order; no other block has turned. -/
def Sorted1 (base g n c : Nat) (zs : List Int) (w : World) (e : Ending) (w' : World) : Prop :=
  e = .returned (.tuple #[]) ∧ Own w' base 3 (.slice (some ⟨g, 0, none⟩) n c) (zs.mergeSort fun x y => decide (x ≤ y)) ∧ Below base w w' ∧ ∀ h, h < w.heap.size → h ≠ g → w'.heap[h]? = w.heap[h]?

theorem Sort_any (base g n c : Nat) (zs : List Int) (w : World) (hown : Own w base 3 (.slice (some ⟨g, 0, none⟩) n c) zs) (hn : n ≤ 1000000) :
    Calls Try.prog 49 #[.slice (some ⟨g, 0, none⟩) n c] w (Sorted1 base g n c zs w) := by
  obtain ⟨rfl, cur, hb, hg, hnc, hm, hs, ht⟩ := hown.row
  have hlt : g < w.heap.size := (Array.getElem?_eq_some_iff.1 hg).1
  refine (Try.slices_Sort_int g 0 c zs w (holds_of_blockI hg ht) hlt (by omega)).mono ?_
  rintro e w' ⟨rfl, k, os, rfl⟩
  have h1 := ownsRow_sortedI (n := k) (os := os) (ss := zs) (ts := zs.mergeSort fun x y => decide (x ≤ y)) (List.length_mergeSort zs) hb hg hnc hm hs
  have h2 := grownBy_sortedI (w := w) (g := g) (n := k) (os := os) (zs.mergeSort fun x y => decide (x ≤ y)).toArray
  refine ⟨rfl, ?_, ⟨h2.os, h2.tape, h2.output, h2.size, fun i hi => h2.block i (by omega) (fun e => by injection e with e; omega)⟩, fun h hh hne => h2.block h hh (fun e => hne (by injection e))⟩
  unfold Own
  rw [List.length_mergeSort]
  exact h1

/-- The model's RingFlows. -/
theorem specRingFlows_any (A : Option Addr) (n c B : Nat) (zs : List Int) (w : World) (hr : Ints w B A n zs) (hB : B ≤ w.heap.size) (hn : n ≤ 17592186044416) :
    Calls Try.prog 19 #[.slice A n c] w (MadeR (ringR zs) (eqOk zs) w) := by
  obtain rfl := hr.len
  cases hq : eqOk zs
  · rw [ringR_no hq]
    have hqb : eqOk zs = false := hq
    go_enter Try.func19, Try.ntmps19
    go_wp2_with fail
    refine (hpEqual_any _ _ _ _ _ _ hr hn).mono ?_; rintro e w' ⟨rfl, rfl⟩; rw [hqb]
    go_wp2_with fail
    go_ret2
    exact madeR_none (Below.refl _ _)
  · rw [ringR_yes hq]
    have hqb : eqOk zs = true := hq
    go_enter Try.func19, Try.ntmps19
    go_wp2_with fail
    refine (hpEqual_any _ _ _ _ _ _ hr hn).mono ?_; rintro e w' ⟨rfl, rfl⟩; rw [hqb]
    go_wp2_with fail
    refine (hpRing_any _ _ _ _ _ _ hr hB (eqOk_good hqb)).mono ?_
    rintro e w1 ⟨A', c', rfl, h1, h2, hown, hb⟩
    go_wp2_with fail
    go_ret2
    exact ⟨A', c', rfl, h1, h2, hown, hb⟩

/-- The model's RingDistance. -/
theorem specRingDistance_any (A : Option Addr) (n c B : Nat) (zs : List Int) (w : World) (hr : Ints w B A n zs) (hB : B ≤ w.heap.size) (hn : n ≤ 17592186044416) :
    Calls Try.prog 17 #[.slice A n c] w fun e w' => e = .returned (.tuple #[.int .i64 (sizes (ringR zs)), .bool (eqOk zs)]) ∧ Below w.heap.size w w' := by
  obtain rfl := hr.len
  cases hq : eqOk zs
  · rw [ringR_no hq]
    have hqb : eqOk zs = false := hq
    go_enter Try.func17, Try.ntmps17
    go_wp2_with fail
    refine (hpEqual_any _ _ _ _ _ _ hr hn).mono ?_; rintro e w' ⟨rfl, rfl⟩; rw [hqb]
    go_wp2_with fail
    go_ret2
    exact ⟨rfl, Below.refl _ _⟩
  · rw [ringR_yes hq]
    have hqb : eqOk zs = true := hq
    have hle := (good_of (eqOk_good hqb)).2.1
    have HS := hide (ringFlows_small (eqOk_good hqb))
    by_cases h1 : zs.length = 1
    · have hone : ((zs.length : Int) == 1) = true := by simp [h1]
      have H1 := hide (ring_one (eqOk_good hqb) h1)
      clear h1
      go_enter Try.func17, Try.ntmps17
      go_wp2_with fail
      refine (hpEqual_any _ _ _ _ _ _ hr hn).mono ?_; rintro e w' ⟨rfl, rfl⟩; rw [hqb]
      go_wp2_with fail
      go_ret2
      exact ⟨by rw [H1.out]; rfl, Below.refl _ _⟩
    · have hone : ((zs.length : Int) == 1) = false := by simp; omega
      clear h1
      go_enter Try.func17, Try.ntmps17
      go_wp2_with fail
      refine (hpEqual_any _ _ _ _ _ _ hr hn).mono ?_; rintro e w' ⟨rfl, rfl⟩; rw [hqb]
      go_wp2_with fail
      refine (hpRing_any _ _ _ _ _ _ hr hB (eqOk_good hqb)).mono ?_
      rintro e w1 ⟨A', c', rfl, h1, h2, hown, hb⟩
      have hx := hown.ints
      go_wp2_with fail
      refine (hpSize_any _ _ _ _ _ _ hx (by rw [HS.out.2]; omega) HS.out.1).mono ?_; rintro e w' ⟨rfl, rfl⟩
      go_wp2_with fail
      go_ret2
      exact ⟨rfl, hb⟩

/-- The first k less by m. -/
def part (m : Int) (k : Nat) (l : List Int) : List Int := (shift m l).take k ++ l.drop k
theorem part_zero (m : Int) (l : List Int) : part m 0 l = l := by simp [part]
theorem part_all (m : Int) (l : List Int) : part m l.length l = shift m l := by
  unfold part; rw [List.take_of_length_le (by rw [shift_length]; exact Nat.le_refl _)]; simp
theorem part_length (m : Int) (k : Nat) (l : List Int) (h : k ≤ l.length) : (part m k l).length = l.length := by
  simp [part, shift_length]; omega
theorem part_getD (m : Int) (k : Nat) (l : List Int) (h : k < l.length) : (part m k l)[k]? = some l[k] := by
  unfold part
  rw [List.getElem?_append_right (by rw [List.length_take, shift_length]; omega), List.length_take, shift_length, Nat.min_eq_left (by omega), Nat.sub_self, List.getElem?_drop]
  simp [List.getElem?_eq_getElem h]
theorem part_set (m : Int) (k : Nat) (l : List Int) (h : k < l.length) : (part m k l).set k (l[k] - m) = part m (k + 1) l := by
  unfold part
  have hl : ((shift m l).take k).length = k := by rw [List.length_take, shift_length]; omega
  rw [List.set_append_right _ _ (by omega), hl, Nat.sub_self, List.drop_eq_getElem_cons h, List.set_cons_zero, shift_take_succ m l k h]
  simp

/-- The program's RingFlows. -/
theorem RingFlows_any (A : Option Addr) (n c B : Nat) (zs : List Int) (w : World) (hr : Ints w B A n zs) (hB : B ≤ w.heap.size) (hn : n ≤ 17592186044416) :
    Calls Try.prog 18 #[.slice A n c] w (MadeR (ringR zs) (eqOk zs) w) := by
  obtain rfl := hr.len
  cases hq : eqOk zs
  · rw [ringR_no hq]
    have hqb : eqOk zs = false := hq
    have HF := hide (flowsR_no hq)
    go_enter Try.func18, Try.ntmps18
    go_wp2_with fail
    refine (LineFlows_any _ _ _ _ _ _ hr hB hn).mono ?_
    rw [HF.out, hqb]
    rintro e w1 ⟨A1, c1, rfl, _, _, _, hb1⟩
    go_wp2_with fail
    go_ret2
    exact madeR_none hb1
  · rw [ringR_yes hq]
    have hqb : eqOk zs = true := hq
    have HF := hide (flowsR_yes hq)
    have hg := eqOk_good hqb
    have hle := (good_of hg).2.1
    have hle1 := (good_of hg).1
    have HL := hide (ringLine_length hg)
    have HW := hide (ringLine_within hg)
    have HFL := hide (flows_length zs)
    have HLdef := hide (show flows zs ++ [0] = ringLine zs from rfl)
    have HR := hide (show ringFlows zs = shift (off (ringLine zs)) (ringLine zs) from rfl)
    rw [HR.out]
    clear HR hg
    generalize ringLine zs = L at *
    have hL0 : 0 < L.length := by rw [HL.out]; omega
    have hL12 : L.length ≤ 12 := by rw [HL.out]; omega
    have hoff := off_bd HW.out (by omega)
    go_enter Try.func18, Try.ntmps18
    go_wp2_with fail
    refine (LineFlows_any _ _ _ _ _ _ hr hB hn).mono ?_
    rw [HF.out, hqb]
    rintro e w1 ⟨A1, c1, rfl, hc1, hc2, hown1, hb1⟩
    have s1 := hb1.size
    have hll : (flows zs).length < 1000000 := by rw [HFL.out]; omega
    go_wp2_with (at_builtin; refine wpList_app_int rfl _ _ 24 3 rfl Try.underlying24 infoInt w.heap.size _ _ rfl hown1 _ _ rfl s1 hll ?_; rw [HLdef.out]; intro v2 w2 hown2 hb2)
    clear hown1
    rcases hown2.form with ⟨_, h0⟩ | ⟨g2, c2, rfl, hg2a, hg2b, hc2a, hc2b⟩
    · rw [h0] at hL0; simp at hL0
    have hx2 := hown2.ints
    have s2 := hb2.size
    go_wp2_with fail
    refine (Clone_any _ _ _ _ _ _ hx2 (Nat.le_refl _) hL0 (by omega)).mono ?_
    rintro e w3 ⟨g3, c3, rfl, hg3a, hg3b, hc3a, hc3b, hown3, hb3⟩
    have hown3' := hown2.below hb3
    have s3 := hb3.size
    go_wp2_with fail
    refine (Sort_any _ _ _ _ _ _ hown3 (by omega)).mono ?_
    rintro e w4 ⟨rfl, hown4, hb4, hoth4⟩
    have hG4 := hown3'.keepAt (hb4.block g2 hg2b)
    have q4 : Below w.heap.size w w4 := (hb1.trans hb2).trans ((hb3.mono (by omega)).trans (hb4.mono (by omega)))
    have s4 := hb4.size
    clear hoth4
    have hx4 := hown4.ints
    have HM := hide (off_median L hL0)
    have hhalf : L.length / 2 < L.length := by omega
    obtain ⟨ad, had, _, hcell⟩ := (by rwa [sort_length] at hx4 : Ints w4 w4.heap.size (some ⟨g3, 0, none⟩) L.length _).at_ hhalf
    obtain rfl := Option.some.inj had
    rw [add_head, show (L.mergeSort fun x y => decide (x ≤ y)).getD (L.length / 2) 0 = off L from by rw [List.getD, List.getElem?_eq_getElem (by rw [sort_length]; omega)]; exact HM.out] at hcell
    clear HM hx4 hown4 hown3 hown3' hx2
    generalize off L = m at *
    go_wp2_with fail
    go_loopw [32] (fun i wr => ∃ k : Nat, k ≤ L.length ∧ i = .int .i64 k ∧ Own wr w.heap.size 3 (.slice (some ⟨g2, 0, none⟩) L.length c2) (part m k L) ∧ Below w.heap.size w wr)
      (fun i _ => L.length - (intOf i).toNat)
    case atStart => exact ⟨0, Nat.zero_le _, rfl, by rw [part_zero]; exact hG4, q4⟩
    case round =>
      obtain ⟨k, hk, rfl, ho, hbl⟩ := hrel
      by_cases hlt : k < L.length
      · have HPL := hide (part_length m k L (by omega))
        have ho' := ho
        unfold Own at ho'
        rw [HPL.out] at ho'
        have hold := World.ownsRow.cellAt ho' k (by omega)
        rw [List.getElem?_map, part_getD m k L hlt, Option.map_some] at hold
        have hfz := World.ownsRow.frozenAt ho' k
        have hLk := within_get HW.out k hlt
        clear ho' hcell
        have HS := hide (part_set m k L hlt)
        go_wp2_with fail
        go_roundw
        case rel =>
          refine ⟨k + 1, by omega, by go_num, ?_, hbl.setCell hg2a _⟩
          have := Own.stored ho HPL.out k (L[k] - m)
          rw [HS.out] at this
          exact this
        case measure => simp [intOf]; omega
      · obtain rfl : k = L.length := by omega
        rw [part_all] at ho
        go_wp2_with fail
        go_ret2
        exact ⟨_, c2, by rw [shift_length]; rfl, by rw [shift_length]; exact hc2a, hc2b, by rw [shift_length]; exact ho, hbl⟩

/-- The program's RingDistance. -/
theorem RingDistance_any (A : Option Addr) (n c B : Nat) (zs : List Int) (w : World) (hr : Ints w B A n zs) (hB : B ≤ w.heap.size) (hn : n ≤ 17592186044416) :
    Calls Try.prog 16 #[.slice A n c] w fun e w' => e = .returned (.tuple #[.int .i64 (sizes (ringR zs)), .bool (eqOk zs)]) ∧ Below w.heap.size w w' := by
  have HS := hide (ringR_small zs)
  go_enter Try.func16, Try.ntmps16
  go_wp2_with fail
  refine (RingFlows_any _ _ _ _ _ _ hr hB hn).mono ?_
  rintro e w1 ⟨A', c', rfl, h1, h2, hown, hb⟩
  have hx := hown.ints
  have hl12 := HS.out.2
  go_wp2_with fail
  refine (sumOfSizes_any _ _ _ _ _ _ hx (by omega) HS.out.1).mono ?_; rintro e w' ⟨rfl, rfl⟩
  go_wp2_with fail
  go_ret2
  exact ⟨rfl, hb⟩
end Go.Proofs.Ytediapekgbekeaa
