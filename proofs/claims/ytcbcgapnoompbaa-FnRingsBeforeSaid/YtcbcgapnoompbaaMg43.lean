import Derived.Test.YtcbcgapnoompbaaMg41
import Derived.Test.YtcbcgapnoompbaaMg03
import Derived.Laws.AppendOwnNone

/-
  RINGS BEFORE, THE MODEL's helpers: riMost, riSmall, riLess; bits of signs; joining lists of lists.
-/
namespace Go.Proofs.Ytcbcgapnoompbaa
open Go.RowKit Go.Deep
set_option linter.unusedVariables false

theorem mx0_take (zs : List Int) (h0 : 0 < zs.length) (h : within 0 1000 zs = true) (k : Nat) (hk : k < zs.length) : max ((zs.take k).foldl max 0) zs[k] = (zs.take (k + 1)).foldl max 0 := by
  rw [List.take_succ_eq_append_getElem hk, List.foldl_append]; rfl
theorem mx0 (zs : List Int) (h0 : 0 < zs.length) (h : within 0 1000 zs = true) : zs.foldl max 0 = mx zs := by
  have h1 := foldl_max_le zs 0
  have h2 := mx_bd h0 h
  rcases h1.2.2 with e | e
  · have := h1.2.1 _ (mx_mem h0); omega
  · have := le_mx e
    have := h1.2.1 _ (mx_mem h0)
    omega
theorem fold_take_bd (zs : List Int) (h : within 0 1000 zs = true) (k : Nat) : 0 ≤ (zs.take k).foldl max 0 := (foldl_max_le _ 0).1
theorem riMost_any (A : Option Addr) (n c B : Nat) (zs : List Int) (w : World) (hr : Ints w B A n zs) (hB : B ≤ w.heap.size) (h0 : 0 < n) (hn : n < 1000000) (hc : within 0 1000 zs = true) :
    Calls Try.prog 66 #[.slice A n c] w fun e w' => e = .returned (.int .i64 (mx zs)) ∧ w = w' := by
  obtain rfl := hr.len
  have HM := hide (mx0 zs h0 hc)
  have HT := hide (fun k hk => mx0_take zs h0 hc k hk)
  clear hc
  go_enter Try.func66, Try.ntmps66
  go_wp2_with fail
  go_loop [3, 8] (fun m i => ∃ k : Nat, k ≤ zs.length ∧ i = .int .i64 k ∧ m = .int .i64 ((zs.take k).foldl max 0))
    (fun _ i => zs.length - (intOf i).toNat)
  case atStart => exact ⟨0, Nat.zero_le _, rfl, rfl⟩
  case round =>
    obtain ⟨k, hk, rfl, rfl⟩ := hrel
    by_cases hlt : k < zs.length
    · have HS := hide (HT.out k hlt)
      obtain ⟨ad, rfl, hab, hcell⟩ := hr.at_ hlt
      rw [rget hlt] at hcell
      generalize zs[k] = z at *
      generalize (zs.take k).foldl max 0 = m at *
      go_wp2_with fail
      refine (l1Most_any _ _ _).mono ?_; rintro e w' ⟨rfl, rfl⟩; rw [HS.out]
      go_wp2_with fail
      go_round
      case rel => exact ⟨k + 1, by omega, by go_num, rfl⟩
      case measure => simp [intOf]; omega
    · go_wp2_with fail
      go_ret
      exact ⟨ret_int (by rw [List.take_of_length_le (by omega)]; exact HM.out), rfl⟩


theorem l1Least_any (a b : Int) (w : World) :
    Calls Try.prog 67 #[.int .i64 a, .int .i64 b] w fun e w' => e = .returned (.int .i64 (min a b)) ∧ w = w' := by
  by_cases h : a < b
  all_goals
    go_enter Try.func67, Try.ntmps67
    go_wp2
    go_ret
    exact ⟨ret_int (by omega), rfl⟩
theorem riSmall_any (A : Option Addr) (n c B : Nat) (zs : List Int) (w : World) (hr : Ints w B A n zs) (hB : B ≤ w.heap.size) (hn : n ≤ 17592186044416) :
    Calls Try.prog 41 #[.slice A n c] w fun e w' => e = .returned (.bool (rsmall zs)) ∧ w = w' := by
  have hlen := hr.len
  cases hg : rgood zs
  · have HE := hide (show rsmall zs = false by unfold rsmall; rw [hg]; rfl)
    go_enter Try.func41, Try.ntmps41
    go_wp2_with fail
    refine (riGood_any _ _ _ _ _ _ hr hn).mono ?_; rintro e w' ⟨rfl, rfl⟩; rw [hg]
    go_wp2_with fail
    go_ret
    exact ⟨by rw [HE.out]; rfl, rfl⟩
  · obtain ⟨hg1, hg2, hg3⟩ := rgood_of hg
    have HE := hide (show rsmall zs = decide (mx zs ≤ 100) by unfold rsmall; rw [hg]; rfl)
    have HM := hide (riMost_any A n c B zs w hr hB (by omega) (by omega) hg3)
    generalize mx zs = m at *
    go_enter Try.func41, Try.ntmps41
    go_wp2_with fail
    refine (riGood_any _ _ _ _ _ _ hr hn).mono ?_; rintro e w' ⟨rfl, rfl⟩; rw [hg]
    go_wp2_with fail
    refine HM.out.mono ?_; rintro e w' ⟨rfl, rfl⟩
    go_wp2_with fail
    go_ret
    exact ⟨by rw [HE.out]; rfl, rfl⟩

theorem lexLt_step {x y : List Int} {k : Nat} (h1 : k < x.length) (h2 : k < y.length) : lexLt (x.drop k) (y.drop k) = if x.getD k 0 = y.getD k 0 then lexLt (x.drop (k + 1)) (y.drop (k + 1)) else decide (x.getD k 0 < y.getD k 0) := by
  rw [List.drop_eq_getElem_cons h1, List.drop_eq_getElem_cons h2, rget h1, rget h2]
  conv => lhs; unfold lexLt
  by_cases h : x[k] < y[k]
  · rw [if_pos h, if_neg (by omega)]; simpa using h
  · by_cases h3 : y[k] < x[k]
    · rw [if_neg h, if_pos h3, if_neg (by omega)]; simp; omega
    · rw [if_neg h, if_neg h3, if_pos (by omega)]
set_option maxRecDepth 100000 in
theorem riLess_any (A A' : Option Addr) (n c c' B B' : Nat) (x y : List Int) (w : World) (hr : Ints w B A n x) (hr' : Ints w B' A' n y) (hB : B ≤ w.heap.size) (hB' : B' ≤ w.heap.size) (hn : n ≤ 17592186044416) :
    Calls Try.prog 68 #[.slice A n c, .slice A' n c'] w fun e w' => e = .returned (.bool (lexLt x y)) ∧ ∃ m, w' = w.drewN m := by
  have hl := hr.len
  have hl' := hr'.len
  have HS := hide (fun k (h1 : k < n) => lexLt_step (x := x) (y := y) (k := k) (by omega) (by omega))
  have H0 := hide (show lexLt x y = lexLt (x.drop 0) (y.drop 0) from rfl)
  have HE := hide (show lexLt (x.drop n) (y.drop n) = false from by rw [List.drop_eq_nil_of_le (by omega), List.drop_eq_nil_of_le (by omega)]; rfl)
  have HR := hide hr
  have HR' := hide hr'
  clear hl hl' hr hr'
  go_enter Try.func68, Try.ntmps68
  go_wp2_with fail
  go_loopw [8] (fun i wr => ∃ k : Nat, k ≤ n ∧ i = .int .i64 k ∧ Hid (lexLt x y = lexLt (x.drop k) (y.drop k)) ∧ ∃ m, wr = w.drewN m)
    (fun i _ => n - (intOf i).toNat)
  case atStart => exact ⟨0, Nat.zero_le _, rfl, H0, 0, rfl⟩
  case round =>
    obtain ⟨k, hk, rfl, HC, m, rfl⟩ := hrel
    by_cases hlt : k < n
    · obtain ⟨ad, rfl, hab, hcell⟩ := HR.out.at_ hlt
      obtain ⟨ad', rfl, hab', hcell'⟩ := HR'.out.at_ hlt
      have HSk := hide (HS.out k hlt)
      generalize x.getD k 0 = a at *
      generalize y.getD k 0 = b at *
      by_cases hab2 : a = b
      · have HN := hide (show lexLt x y = lexLt (x.drop (k + 1)) (y.drop (k + 1)) from by rw [HC.out, HSk.out, if_pos hab2])
        subst hab2
        have n0 : (a != a) = false := by simp
        go_wp2_with fail
        go_quiet (fail)
        go_wp2_with fail
        go_roundw
        case rel => exact ⟨k + 1, by omega, by go_num, HN, _, rfl⟩
        case measure => simp [intOf]; omega
      · have HN := hide (show lexLt x y = decide (a < b) from by rw [HC.out, HSk.out, if_neg hab2])
        have n0 : (a != b) = true := by simpa using hab2
        go_wp2_with fail
        go_quiet (fail)
        go_wp2_with fail
        go_quiet (fail)
        go_wp2_with fail
        go_ret
        exact ⟨by rw [HN.out]; rfl, _, by rw [World.drewN_drewN, World.drewN_drewN]⟩
    · obtain rfl : k = n := by omega
      go_wp2_with fail
      go_ret
      exact ⟨by rw [HC.out, HE.out]; rfl, _, rfl⟩

theorem k_pow : ∀ k : Fin 11, wrap64 (2 ^ k.val) = ((2 ^ k.val : Nat) : Int) := by decide +kernel
theorem k_bit : ∀ (k : Fin 10) (s : Fin 1024), (bits BinOp.and IntKind.i64 (((s.val : Nat) : Int) / 2 ^ k.val) 1 == 1) = decide (s.val / 2 ^ k.val % 2 = 1) := by decide +kernel
theorem bit_is (s k : Nat) (hs : s < 1024) (hk : k < 10) : (bits BinOp.and IntKind.i64 ((s : Int) / 2 ^ k) 1 == 1) = decide (s / 2 ^ k % 2 = 1) := k_bit ⟨k, hk⟩ ⟨s, hs⟩

/-- Where a list goes among those in order. -/
def insPos : List (List Int) → List Int → Nat
  | [], _ => 0
  | o :: os, l => if lexLt o l = true then insPos os l + 1 else 0
theorem insPos_le : ∀ (xss : List (List Int)) (l : List Int), insPos xss l ≤ xss.length
  | [], _ => Nat.le_refl _
  | o :: os, l => by
    have := insPos_le os l
    unfold insPos
    split <;> simp <;> omega
theorem insPos_lt : ∀ (xss : List (List Int)) (l : List Int) (k : Nat), k < insPos xss l → lexLt (xss.getD k []) l = true
  | [], _, k, h => by simp [insPos] at h
  | o :: os, l, k, h => by
    unfold insPos at h
    split at h
    · rename_i hc
      cases k with
      | zero => exact hc
      | succ k => exact insPos_lt os l k (by omega)
    · omega
theorem insPos_at : ∀ (xss : List (List Int)) (l : List Int), insPos xss l < xss.length → lexLt (xss.getD (insPos xss l) []) l = false
  | [], _, h => by simp [insPos] at h
  | o :: os, l, h => by
    unfold insPos at h ⊢
    split
    · rename_i hc
      rw [if_pos hc] at h
      exact insPos_at os l (by simpa using h)
    · rename_i hc
      simpa using hc
theorem insU_pos : ∀ (xss : List (List Int)) (l : List Int), insU xss l = if insPos xss l < xss.length ∧ xss.getD (insPos xss l) [] = l then xss else xss.take (insPos xss l) ++ (l :: xss.drop (insPos xss l))
  | [], l => by simp [insU, insPos]
  | o :: os, l => by
    have ih := insU_pos os l
    unfold insU insPos
    by_cases hc : lexLt o l = true
    · rw [if_pos hc, if_pos hc, ih]
      by_cases h : insPos os l < os.length ∧ os.getD (insPos os l) [] = l
      · rw [if_pos h, if_pos (by refine ⟨by simp; omega, ?_⟩; exact h.2)]
      · rw [if_neg h, if_neg (by rintro ⟨h1, h2⟩; exact h ⟨by simp at h1; omega, h2⟩)]
        rfl
    · rw [if_neg hc, if_neg hc]
      by_cases h : o = l
      · rw [if_pos h, if_pos ⟨by simp, h⟩]
      · rw [if_neg h, if_neg (by rintro ⟨_, h2⟩; exact h h2)]
        rfl
end Go.Proofs.Ytcbcgapnoompbaa
