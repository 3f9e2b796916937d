
/-
  FEWEST MACHINES, THE MODEL's WAY: MachinesFor.
-/
import Derived.Test.YtaplnbjljgeakaaMfA
import Derived.Test.YtaplnbjljgeakaaOrd
import Derived.Test.YtaplnbjljgeakaaLd
import Derived.Test.YtaplnbjljgeakaaSpread
namespace Go.Proofs.Ytaplnbjljgeakaa
open Go.RowKit Go.Deep
set_option linter.unusedVariables false

theorem insAt_perm (os : List Int) (k : Nat) (i : Int) : (insAt os k i).Perm (i :: os) := by
  unfold insAt
  refine (List.perm_append_comm (l₁ := os.take k) (l₂ := [i]) |>.append_right _).trans ?_
  rw [List.append_assoc, List.take_append_drop]
  exact List.Perm.refl _
theorem ordS_perm (b : Bool) (zs : List Int) : ∀ i, (ordS b zs i).Perm (rng i)
  | 0 => List.Perm.refl _
  | i + 1 => by
    rw [ordS, rng_succ]
    exact (insAt_perm _ _ _).trans (((ordS_perm b zs i).cons _).trans (List.perm_append_comm (l₁ := [(i : Int)])))
/-- The jobs, longest first. -/
def srt (zs : List Int) : List Int := (ordA true zs).map fun x => zs.getD x.toNat 0
theorem srt_perm (zs : List Int) : (srt zs).Perm zs := by
  have h := (ordS_perm true zs zs.length).map fun x => zs.getD x.toNat 0
  refine h.trans ?_
  have e : (rng zs.length).map (fun x => zs.getD x.toNat 0) = zs := by
    refine List.ext_getElem (by rw [List.length_map, rng_length]) fun k h1 h2 => ?_
    rw [List.getElem_map, rng_get h2]
    simp [List.getD, h2]
  rw [e]
theorem srt_length (zs : List Int) : (srt zs).length = zs.length := (srt_perm zs).length_eq
theorem fits_iff {zs : List Int} {E : Int} (h0 : ∀ x ∈ zs, 0 ≤ x) (hE : ∀ x ∈ zs, x ≤ E) (k : Nat) : Can (srt zs) (List.replicate k E) ↔ mfN zs E ≤ k := by
  rw [mfN_le hE]
  exact ⟨fun h => Can.jobs (srt_perm zs) (fun x hx => h0 x ((srt_perm zs).mem_iff.1 hx)) h, fun h => Can.jobs (srt_perm zs).symm h0 h⟩
theorem mfN_pos {zs : List Int} {E : Int} (hE : ∀ x ∈ zs, x ≤ E) (h1 : 1 ≤ zs.length) : 1 ≤ mfN zs E := by
  refine Nat.lt_of_not_le fun h => ?_
  have h := (mfN_le hE 0).1 (by omega)
  cases zs with
  | nil => simp at h1
  | cons j J => obtain ⟨i, hi, _⟩ := h; simp at hi
theorem mfN_max {zs : List Int} {E : Int} (hE : ∀ x ∈ zs, x ≤ E) : mfN zs E ≤ zs.length := (mfN_le hE _).2 (by
  have := Can.room E zs [] zs.length hE (Nat.le_refl _)
  simpa using this)
def mfOk (zs : List Int) (E : Int) : Bool := jgood zs && decide (1 ≤ E ∧ E ≤ 10000) && within 1 E zs
def mfI (zs : List Int) (E : Int) : Int := if mfOk zs E then mfN zs E else 0
theorem mfOk_of {zs : List Int} {E : Int} (h : mfOk zs E = true) : jgood zs = true ∧ (1 ≤ E ∧ E ≤ 10000) ∧ within 1 E zs = true := by
  unfold mfOk at h; simp at h; exact ⟨h.1.1, h.1.2, h.2⟩
theorem mfI_yes {zs : List Int} {E : Int} (h : mfOk zs E = true) : mfI zs E = mfN zs E := by simp [mfI, h]
theorem mfI_no {zs : List Int} {E : Int} (h : mfOk zs E = false) : mfI zs E = 0 := by simp [mfI, h]
theorem within_mem {lo hi : Int} {zs : List Int} (h : within lo hi zs = true) : ∀ x ∈ zs, lo ≤ x ∧ x ≤ hi := by
  unfold within at h
  rw [List.all_eq_true] at h
  intro x hx
  simpa using h x hx

/-- How long a list is. -/
def slen : Value → Nat
  | .slice _ n _ => n
  | _ => 0
def MfR (zs : List Int) (E : Int) (w : World) (e : Ending) (w' : World) : Prop := e = .returned (.tuple #[.int .i64 (mfI zs E), .bool (mfOk zs E)]) ∧ Below w.heap.size w w'

set_option maxRecDepth 100000 in
set_option maxHeartbeats 4000000 in
theorem specMachinesFor_any (A : Option Addr) (n c : Nat) (zs : List Int) (E : Int) (w : World) (hr : Ints w w.heap.size A n zs) (hn : n ≤ 17592186044416) :
    Calls Try.prog 4 #[.slice A n c, .int .i64 E] w (MfR zs E w) := by
  obtain rfl := hr.len
  have HLG := hide (ldGood_any A zs.length c w.heap.size zs w hr hn)
  have HIN := hide (l1In_any E 1 10000 w)
  have HAL := hide (l1All_any A zs.length c w.heap.size zs 1 E w hr hn)
  by_cases hok : mfOk zs E = true
  · obtain ⟨hj, hE, hw⟩ := mfOk_of hok
    have HY := hide (mfI_yes hok)
    have HOK := hide hok
    rw [hj] at HLG
    rw [decide_eq_true hE] at HIN
    rw [hw] at HAL
    obtain ⟨hl1, hl9, _⟩ := jgood_of hj
    have hmem := within_mem hw
    have HPOS := mfN_pos (fun x hx => (hmem x hx).2) hl1
    have HMAX := mfN_max (fun x hx => (hmem x hx).2)
    have HFI := hide (fits_iff (fun x hx => by have := hmem x hx; omega) (fun x hx => (hmem x hx).2))
    have HSM := hide (fun x (hx : x ∈ srt zs) => (show 1 ≤ x ∧ x ≤ 1000 from within_mem (jgood_of hj).2.2 x ((srt_perm zs).mem_iff.1 hx)))
    have HSL := hide (srt_length zs)
    have HOR := hide (ldOrder_any true A zs.length c w.heap.size zs w hr (Nat.le_refl _) hl9)
    have HOL := hide (ordA_length true zs)
    have HOG := hide (fun k (hk : k < zs.length) => ordS_get true zs zs.length k hk)
    have HST := hide (fun k (hk : k < zs.length) => (show (srt zs).take (k + 1) = (srt zs).take k ++ [zs.getD ((ordA true zs).getD k 0).toNat 0] from by
      rw [List.take_succ_eq_append_getElem (by rw [srt_length]; exact hk)]
      congr 2
      unfold srt
      rw [List.getElem_map]
      congr 2
      simp [List.getD, ordA_length, hk]))
    have HTK := hide (show (srt zs).take zs.length = srt zs from List.take_of_length_le (by rw [srt_length]; exact Nat.le_refl _))
    generalize mfN zs E = N at *
    clear hok hj hw hmem
    go_enter Try.func4, Try.ntmps4
    go_wp2_with fail
    refine HLG.out.mono ?_; rintro e w' ⟨rfl, rfl⟩
    go_wp2_with fail
    refine HIN.out.mono ?_; rintro e w' ⟨rfl, rfl⟩
    go_wp2_with fail
    refine HAL.out.mono ?_; rintro e w' ⟨rfl, rfl⟩
    go_wp2_with fail
    refine HOR.out.mono ?_
    rintro e w1 ⟨v, rfl, hown, hb1⟩
    obtain ⟨A', c', rfl, _, _⟩ := hown.shape
    have hr1 := hr.next hb1
    rw [HOL.out]
    have HI := hide (by have := hown.ints; rw [HOL.out] at this; exact this)
    have HB1 := hide hb1
    have HR1 := hide hr1
    clear hown hb1 hr hr1 HLG HIN HAL HOR
    go_wp2_with fail
    go_loopw [6, 27] (fun v i wr => ∃ q : Nat, q ≤ zs.length ∧ i = .int .i64 q ∧ Hid (Own wr w1.heap.size 3 v ((srt zs).take q)) ∧ Hid (Below w1.heap.size w1 wr))
      (fun _ i _ => zs.length - (intOf i).toNat)
    case atStart => exact ⟨0, Nat.zero_le _, rfl, hide (Own.nil _ _ _), hide (Below.refl _ _)⟩
    case round =>
      obtain ⟨q, hq, rfl, HO, HB⟩ := hrel
      by_cases hql : q < zs.length
      · obtain ⟨ad', rfl, _, c1⟩ := (HI.out.next HB.out).at_ hql
        obtain ⟨jj, hjj, hjl⟩ := HOG.out q hql
        have HS := hide (HST.out q hql)
        rw [show (ordS true zs zs.length) = ordA true zs from rfl] at hjj
        rw [hjj] at HS c1
        obtain ⟨adz, rfl, _, c2⟩ := (HR1.out.next HB.out).at_ hjl
        have s1 := HB.out.size
        have hown1 := HO.out
        have hlt4 : ((srt zs).take q).length < 1000000 := by rw [List.length_take]; omega
        rw [show ((jj : Int)).toNat = jj from rfl] at HS
        generalize zs.getD jj 0 = z at *
        go_wp2_with (at_builtin; refine wpList_app_int rfl _ _ 22 3 rfl Try.underlying22 infoInt w1.heap.size _ _ rfl hown1 _ _ rfl s1 hlt4 ?_; intro v2 w2 hown2 hb2; have HO2 := hide hown2; have HB2 := hide hb2; clear hown2 hb2)
        go_roundw
        case rel => exact ⟨q + 1, by omega, by go_num, hide (by rw [HS.out]; exact HO2.out), hide (HB.out.trans HB2.out)⟩
        case measure => simp [intOf]; omega
      · obtain rfl : q = zs.length := by omega
        rw [HTK.out] at HO
        obtain ⟨As, cs, rfl, hcs1, hcs2⟩ := HO.out.shape
        have HIS := hide (by have := HO.out.ints; rw [HSL.out] at this; exact this)
        rw [HSL.out] at hcs1
        rw [HSL.out]
        have HBW := hide (HB1.out.trans (HB.out.mono HB1.out.size))
        clear HO HB HB1 HI HR1 HST HOG HTK HOL
        go_wp2_with fail
        go_loopw [7] (fun v wz => ∃ k : Nat, k < N ∧ slen v = k ∧ Hid (Own wz wr.heap.size 3 v (List.replicate k E)) ∧ Hid (Below wr.heap.size wr wz))
          (fun v _ => N - slen v)
        case atStart => exact ⟨0, by omega, rfl, hide (Own.nil _ _ _), hide (Below.refl _ _)⟩
        case round =>
          obtain ⟨k, hk, hsl, HO, HB⟩ := hrel
          have hown1 := HO.out
          have s1 := HB.out.size
          have hlt4 : (List.replicate k E).length < 1000000 := by rw [List.length_replicate]; omega
          go_wp2_with (at_builtin; refine wpList_app_int rfl _ _ 22 3 rfl Try.underlying22 infoInt _ _ _ rfl hown1 _ _ rfl s1 hlt4 ?_; intro v2 w2 hown2 hb2; obtain ⟨A2, c2, rfl, hc21, hc22⟩ := hown2.shape; have HO2 := hide hown2; have HB2 := hide hb2; clear hown2 hb2)
          have hl2 : (List.replicate k E ++ [E]).length = k + 1 := by simp
          have he2 : List.replicate k E ++ [E] = List.replicate (k + 1) E := by rw [List.replicate_succ']
          have HO3 := hide (he2 ▸ HO2.out)
          have HI3 := hide (by have := HO3.out.ints; rw [List.length_replicate] at this; exact this)
          have HBQ := hide (HB.out.trans HB2.out)
          have HIS3 := hide (HIS.out.next HBQ.out)
          have HIT := hide (HFI.out (k + 1))
          have HBV := hide (HBW.out.trans (HBQ.out.mono HBW.out.size))
          rw [hl2] at hc21
          have HCC := hide (And.intro hc21 hc22)
          clear hl2 he2 HO2 HB2 hc21 hc22 hlt4 hown1 s1
          have HF := hide (ldFits_any (srt zs) (List.replicate (k + 1) E) zs.length (k + 1) As A2 cs c2 _ HIS3.out hcs1 hcs2 HI3.out HCC.out.1 HCC.out.2 (by omega) (by omega) HSM.out (fun i hi => by
            rw [List.length_replicate] at hi
            simp [List.getD, hi]
            omega))
          go_wp2_with fail
          refine HF.out.mono ?_
          rintro e w5 ⟨b, rfl, hbb, hb5⟩
          have HBB := hide (hbb.trans HIT.out)
          have HB5 := hide (HBV.out.trans (hb5.mono HBV.out.size))
          have HB6 := hide (HBQ.out.trans (hb5.mono HBQ.out.size))
          have HO5 := hide (by have := HO3.out.below hb5; rw [List.length_replicate] at this; exact this)
          have HSL2 := hide hsl
          clear hbb hb5 HO3 HI3 HIS3 HF HIT hsl
          cases b
          · have hlt : k + 1 < N := Nat.lt_of_not_le fun h => by have := HBB.out.2 h; cases this
            go_wp2_with fail
            go_roundw
            case rel => exact ⟨k + 1, hlt, rfl, HO5, HB6⟩
            case measure => have h2 := HSL2.out; simp [slen] at h2 ⊢; omega
          · have hle : N ≤ k + 1 := HBB.out.1 rfl
            obtain rfl : N = k + 1 := by omega
            go_wp2_with fail
            go_ret2
            exact ⟨by rw [HY.out, HOK.out]; rfl, HB5.out⟩
  · have hof : mfOk zs E = false := by simpa using hok
    have HN := hide (mfI_no hof)
    unfold MfR
    rw [HN.out, hof]
    cases hj : jgood zs
    · rw [hj] at HLG
      go_enter Try.func4, Try.ntmps4
      go_wp2_with fail
      refine HLG.out.mono ?_; rintro e w' ⟨rfl, rfl⟩
      go_wp2_with fail
      go_ret2
      exact ⟨rfl, Below.refl _ _⟩
    · rw [hj] at HLG
      by_cases hE : 1 ≤ E ∧ E ≤ 10000
      · rw [decide_eq_true hE] at HIN
        have hw : within 1 E zs = false := by
          cases hw : within 1 E zs
          · rfl
          · exact absurd (show mfOk zs E = true by unfold mfOk; rw [hj, decide_eq_true hE, hw]; rfl) hok
        rw [hw] at HAL
        clear hE hw hof hok
        go_enter Try.func4, Try.ntmps4
        go_wp2_with fail
        refine HLG.out.mono ?_; rintro e w' ⟨rfl, rfl⟩
        go_wp2_with fail
        refine HIN.out.mono ?_; rintro e w' ⟨rfl, rfl⟩
        go_wp2_with fail
        refine HAL.out.mono ?_; rintro e w' ⟨rfl, rfl⟩
        go_wp2_with fail
        go_ret2
        exact ⟨rfl, Below.refl _ _⟩
      · rw [decide_eq_false hE] at HIN
        clear hE hof hok
        go_enter Try.func4, Try.ntmps4
        go_wp2_with fail
        refine HLG.out.mono ?_; rintro e w' ⟨rfl, rfl⟩
        go_wp2_with fail
        refine HIN.out.mono ?_; rintro e w' ⟨rfl, rfl⟩
        go_wp2_with fail
        go_ret2
        exact ⟨rfl, Below.refl _ _⟩
end Go.Proofs.Ytaplnbjljgeakaa
