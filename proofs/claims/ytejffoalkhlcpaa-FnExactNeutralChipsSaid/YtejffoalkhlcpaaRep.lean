
/-
  slices.Repeat OF A LIST OF ONE NUMBER: as many of them as told.
-/
import Derived.Test.YtejffoalkhlcpaaCopy
import Derived.Test.YtejffoalkhlcpaaChP
import Derived.Laws.CopyOwn
import Derived.Deep.RegionLaw
namespace Go.Proofs.Ytejffoalkhlcpaa
open Go.RowKit Go.Deep

theorem mask_small : ∀ n : Fin 21, bits BinOp.and IntKind.u64 ((n.val : Nat) : Int) 4294967295 = ((n.val : Nat) : Int) := by decide +kernel

theorem Mul64_any (n : Int) (h0 : 0 ≤ n) (h1 : n ≤ 20) (w : World) :
    Calls Try.prog 21 #[.int .u64 1, .int .u64 n] w fun e w' => e = .returned (.tuple #[.int .u64 0, .int .u64 n]) ∧ w = w' := by
  obtain ⟨k, rfl⟩ := Int.eq_ofNat_of_zero_le h0
  have e0 : bits BinOp.and IntKind.u64 0 4294967295 = 0 := mask_small ⟨0, by omega⟩
  have e1 : bits BinOp.and IntKind.u64 1 4294967295 = 1 := mask_small ⟨1, by omega⟩
  have ek : bits BinOp.and IntKind.u64 (k : Int) 4294967295 = (k : Int) := mask_small ⟨k, by omega⟩
  have ed : (k : Int) / 4294967296 = 0 := by omega
  go_enter Try.func21, Try.ntmps21
  go_wp2
  go_ret2
  exact ⟨rfl, rfl⟩

theorem Mul_any (n : Int) (h0 : 0 ≤ n) (h1 : n ≤ 20) (w : World) :
    Calls Try.prog 18 #[.int .u64 1, .int .u64 n] w fun e w' => e = .returned (.tuple #[.int .u64 0, .int .u64 n]) ∧ w = w' := by
  go_enter Try.func18, Try.ntmps18
  go_wp2_with fail
  refine (Mul64_any _ h0 h1 _).mono ?_; rintro e w' ⟨rfl, rfl⟩
  go_wp2_with fail
  go_ret2
  exact ⟨rfl, rfl⟩

/-- So many ones. -/
def ones (n : Nat) : List Int := List.replicate n 1
theorem ones_length (n : Nat) : (ones n).length = n := by simp [ones]
/-- The first m of n written. -/
def repd (m n : Nat) : List Value := List.replicate m (.int .i64 1) ++ List.replicate (n - m) (.int .i64 0)
theorem repd_length (m n : Nat) (h : m ≤ n) : (repd m n).length = n := by simp [repd]; omega
theorem repd_get (m n j : Nat) (h : j < m) : (repd m n)[j]? = some (.int .i64 1) := by
  unfold repd
  rw [List.getElem?_append_left (by simpa using h), List.getElem?_replicate, if_pos h]
theorem repd_splice (m n k : Nat) (h : m + k ≤ n) : splice (repd m n) m (List.replicate k (.int .i64 1)) = repd (m + k) n := by
  unfold splice repd
  rw [List.take_append_of_le_length (by simp), List.take_of_length_le (by simp), List.drop_append]
  simp only [List.length_replicate, List.drop_replicate]
  rw [show m - (m + k) = 0 from by omega, show n - m - (m + k - m) = n - (m + k) from by omega, List.replicate_zero, List.nil_append, ← List.append_assoc, List.replicate_append_replicate]
theorem repd_all (n : Nat) : repd n n = (ones n).map (Value.int .i64) := by simp [repd, ones]
theorem repd_zero (n : Nat) : repd 0 n = List.replicate n (.int .i64 0) := by simp [repd]

theorem row_list {w : World} {g n : Nat} {t : TypeId} {f : Nat → Value} {L : List Value} (h : w.rowIs g t n f) (hl : L.length = n) (hv : ∀ i, i < n → L[i]? = some (f i)) : w.heap[g]? = some (.cells L.toArray t (0, 0)) := by
  obtain ⟨cur, hg, hc, hcur⟩ := h
  rw [hg]
  have : cur = L.toArray := by
    refine Array.ext_getElem? fun i => ?_
    by_cases hi : i < n
    · rw [hcur i hi, List.getElem?_toArray, hv i hi]
    · rw [Array.getElem?_eq_none (by rw [hc]; omega), Array.getElem?_eq_none (by rw [List.size_toArray]; omega)]
  rw [this]

/-- Where a copy's source lies, told in one word. -/
def SrcAt (w : World) (dp : Option Addr) (g off : Nat) (sp : Option Addr) (cs : List Value) : Prop :=
  0 < cs.length → dp = some ⟨g, off, none⟩ ∧ ∃ ad, sp = some ad ∧ ∀ j v, cs[j]? = some v → w.cell? (ad.add j) = some v
theorem SrcAt.out {w : World} {dp : Option Addr} {g off : Nat} {sp : Option Addr} {cs : List Value} (h : SrcAt w dp g off sp cs) :
    0 < cs.length → dp = some ⟨g, off, none⟩ ∧ ∃ ad, sp = some ad ∧ ∀ j v, cs[j]? = some v → w.cell? (ad.add j) = some v := h

theorem Repeat_any (A : Option Addr) (c B n : Nat) (w : World) (hr : Ints w B A 1 [1]) (hB : B ≤ w.heap.size) (h0 : 0 < n) (h1 : n ≤ 20) :
    Calls Try.prog 15 #[.slice A 1 c, .int .i64 n] w (Made1 (ones n) w) := by
  have HM := hide (Mul_any n (by omega) (by omega) w)
  have hmk := run_make_row' (P := Try.prog) 22 3 (.int .i64 0) 8 Try.underlying22 infoInt rfl .i64 .i64 n (by omega) (by omega)
  have hrow := row_list (L := repd 0 n) (World.rowIs_made w (.int .i64 0) n 3) (repd_length 0 n (by omega)) (fun i hi => by rw [repd_zero, List.getElem?_replicate, if_pos hi])
  have hb1 : Below w.heap.size w (w.alloc (.cells (madeCells #[.int .i64 0] n) 3)) := (Below.refl _ _).alloc (Nat.le_refl _) _
  have hr1 := hr.below hb1 hB
  have HB := hide hb1
  have HR := hide hrow
  have HC : Hid ((List.replicate 1 (Value.int .i64 1)).length = Nat.min 1 n) := hide (by rw [List.length_replicate]; exact (Nat.min_eq_left (by omega)).symm)
  have HF : Hid (0 + (List.replicate 1 (Value.int .i64 1)).length ≤ (repd 0 n).length) := hide (by rw [repd_length _ _ (by omega), List.length_replicate]; omega)
  have H1 : Hid (∀ v ∈ List.replicate 1 (Value.int .i64 1), v.oneCell' = true) := hide fun v hv => by rw [List.eq_of_mem_replicate hv]; rfl
  have HP : SrcAt (w.alloc (.cells (madeCells #[.int .i64 0] n) 3)) (some ⟨w.heap.size, 0, none⟩) w.heap.size 0 A (List.replicate 1 (Value.int .i64 1)) := fun _ => by
    obtain ⟨ad, e, _, hcell⟩ := hr1.at_ (show 0 < [(1 : Int)].length by simp)
    refine ⟨rfl, ad, e, fun j v hv => ?_⟩
    rw [List.getElem?_replicate] at hv
    split at hv
    · injection hv with hv; subst hv
      obtain rfl : j = 0 := by omega
      simpa using hcell
    · cases hv
  clear hrow hb1
  go_enter Try.func15, Try.ntmps15
  go_wp2_with fail
  refine HM.out.mono ?_; rintro e w' ⟨rfl, rfl⟩
  clear HM
  go_wp2_with (with_reducible refine wpList_copy_splice rfl (.tmp 31) (.tmp 32) 22 22 rfl 3 Try.underlying22 (by kernel_rfl) (some ⟨w.heap.size, 0, none⟩) A n n 1 c rfl rfl w.heap.size 0 (repd 0 n) 3 HR.out (List.replicate 1 (.int .i64 1)) HC.out HP.out HF.out H1.out w.heap.size w HB.out (Nat.le_refl _) ?_; intro w' hg' hb')
  have hg0 := hg'.out
  rw [repd_splice 0 n 1 (by omega), Nat.zero_add] at hg0
  have HL := hide (ones_length n)
  clear hg' HP HC HF HR H1 hmk hr1
  go_loopw [8] (fun i wr => ∃ m : Nat, 1 ≤ m ∧ m ≤ n ∧ i = .int .i64 m ∧ wr.heap[w.heap.size]? = some (.cells (repd m n).toArray 3 (0, 0)) ∧ Below w.heap.size w wr)
    (fun i _ => n - (intOf i).toNat)
  case atStart => exact ⟨1, Nat.le_refl _, by omega, by simp [goInt], hg0, hb'⟩
  case round =>
    obtain ⟨m, hm1, hm2, rfl, hg, hb⟩ := hrel
    by_cases hlt : m < n
    · have HG := hide hg
      have hsz := hb.size
      have hgl : w.heap.size < wr.heap.size := (Array.getElem?_eq_some_iff.1 hg).1
      generalize hkk : Nat.min m (n - m) = k at *
      have hk1 : 0 < k := by rw [← hkk]; exact Nat.lt_min.2 ⟨by omega, by omega⟩
      have hk2 : k ≤ m := by rw [← hkk]; exact Nat.min_le_left _ _
      have hk3 : k ≤ n - m := by rw [← hkk]; exact Nat.min_le_right _ _
      have HC : Hid ((List.replicate k (Value.int .i64 1)).length = Nat.min m (n - m)) := hide (by rw [List.length_replicate, hkk])
      have HF : Hid (m + (List.replicate k (Value.int .i64 1)).length ≤ (repd m n).length) := hide (by rw [repd_length _ _ (by omega), List.length_replicate]; omega)
      have H1 : Hid (∀ v ∈ List.replicate k (Value.int .i64 1), v.oneCell' = true) := hide fun v hv => by rw [List.eq_of_mem_replicate hv]; rfl
      have HP : SrcAt wr.drew (if n = m then some ⟨w.heap.size, 0, none⟩ else some ⟨w.heap.size, m, none⟩) w.heap.size m (some ⟨w.heap.size, 0, none⟩) (List.replicate k (Value.int .i64 1)) := fun _ => by
        refine ⟨by rw [if_neg (by omega)], _, rfl, fun j v hv => ?_⟩
        rw [List.getElem?_replicate] at hv
        split at hv
        · injection hv with hv; subst hv
          have : (repd m n).toArray[j]? = some (.int .i64 1) := by rw [List.getElem?_toArray]; exact repd_get m n j (by omega)
          show wr.cell? ((⟨w.heap.size, 0, none⟩ : Addr).add j) = _
          have ej : (⟨w.heap.size, 0, none⟩ : Addr).add j = ⟨w.heap.size, j, none⟩ := by
            unfold Addr.add; by_cases hj : j = 0
            · subst hj; simp
            · simp [hj]
          rw [ej]
          simp [World.cell?, hg, this]
        · cases hv
      have HS := hide (repd_splice m n k (by omega))
      have HB := hide hb
      clear hg hb
      go_wp2_with fail
      go_region_law (refine step_copy_splice rfl (.tmp 41) (.tmp 44) 22 22 rfl 3 Try.underlying22 (by kernel_rfl) (if n = m then some ⟨w.heap.size, 0, none⟩ else some ⟨w.heap.size, m, none⟩) (some ⟨w.heap.size, 0, none⟩) (n - m) (n - m) m n (by simp [Act.eval, Act.put]) (by simp [Act.eval, Act.put]) w.heap.size m (repd m n) 3 HG.out (List.replicate k (.int .i64 1)) HC.out HP.out HF.out H1.out w.heap.size w HB.out.drew (Nat.le_refl _) ?_; intro w4 hg4 hb4)
      have hg5 := hg4.out
      rw [HS.out] at hg5
      have hw := IntWalk.i64_in ((m : Int) + (k : Int)) (by omega)
      rw [hw]
      clear hg4 HS HP HC HF H1 HB HG hkk
      go_wp2_with fail
      go_roundw
      case rel => exact ⟨m + k, by omega, by omega, by omega, rfl⟩
      case measure => simp [intOf]; omega
    · obtain rfl : m = n := by omega
      rw [repd_all] at hg
      have hrow : Row wr w.heap.size 3 (ones m) := by
        refine ⟨_, hg, by simp, fun i hi => ?_⟩
        rw [List.getElem?_toArray, List.getElem?_map, List.getElem?_eq_getElem hi]
        simp [List.getD, List.getElem?_eq_getElem hi]
      have ho := Own.of_row (base := w.heap.size) hrow (Nat.le_refl _) (by rw [ones_length]; unfold maxLen; omega)
      go_wp2_with fail
      go_ret
      exact ⟨w.heap.size, _, by rw [HL.out]; rfl, Nat.le_refl _, (Array.getElem?_eq_some_iff.1 hg).1, by rw [HL.out]; exact Nat.le_refl _, by unfold maxLen; omega, by rw [HL.out]; rw [HL.out] at ho; exact ho, hb⟩
end Go.Proofs.Ytejffoalkhlcpaa
