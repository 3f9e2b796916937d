
/-
  VALUES OF HEAPS, BOTH WAYS: of several heaps, who wins, of one heap.
-/
import Derived.Test.YtlaapnfinbancaaSlX
import Derived.Test.YtlaapnfinbancaaSlB
import Derived.Test.YtlaapnfinbancaaCyB
namespace Go.Proofs.Ytlaapnfinbancaa
open Go.RowKit Go.Deep
set_option linter.unusedVariables false

/-- The values of heaps, added digit by digit. -/
def xfold (t : List Int) (zs : List Int) : Int := zs.foldl (fun s z => xr s (t.getD z.toNat 0)) 0
theorem xfold_succ (t zs : List Int) (k : Nat) (hk : k < zs.length) : xfold t (zs.take (k + 1)) = xr (xfold t (zs.take k)) (t.getD zs[k].toNat 0) := by
  unfold xfold
  rw [List.take_succ_eq_append_getElem hk, List.foldl_append]; rfl
theorem xfold_bd {t : List Int} (ht : ∀ k, 0 ≤ t.getD k 0 ∧ t.getD k 0 ≤ 62) (zs : List Int) : 0 ≤ xfold t zs ∧ xfold t zs ≤ 63 := by
  have key : ∀ (zs : List Int) (s : Int), 0 ≤ s → s ≤ 63 → 0 ≤ zs.foldl (fun s z => xr s (t.getD z.toNat 0)) s ∧ zs.foldl (fun s z => xr s (t.getD z.toNat 0)) s ≤ 63 := by
    intro zs
    induction zs with
    | nil => intro s h0 h1; exact ⟨h0, h1⟩
    | cons z zs ih =>
      intro s h0 h1
      have := ht z.toNat
      have := xr_bd h0 h1 (by omega : 0 ≤ t.getD z.toNat 0) (by omega)
      exact ih _ this.1 this.2.1
  exact key zs 0 (by omega) (by omega)
theorem vals_get {r : Int} {k n M : Nat} (h : k ≤ n) (h' : n ≤ M) : (vals r M).getD k 0 = (vals r n).getD k 0 := by
  unfold vals; exact tbl_get h h'
theorem fold_same {f g : Int → Int → Int} : ∀ (zs : List Int) (s : Int), (∀ (s : Int) (z : Int), z ∈ zs → f s z = g s z) → zs.foldl f s = zs.foldl g s
  | [], _, _ => rfl
  | z :: zs, s, h => by
    rw [List.foldl_cons, List.foldl_cons, h s z List.mem_cons_self]
    exact fold_same zs _ (fun s y hy => h s y (List.mem_cons_of_mem _ hy))
theorem xfold_tabs {t u : List Int} {zs : List Int} (h : ∀ z, z ∈ zs → t.getD z.toNat 0 = u.getD z.toNat 0) : xfold t zs = xfold u zs :=
  fold_same zs 0 (fun s z hz => by rw [h z hz])
theorem xfold_same {r : Int} {m M : Nat} (hm : m ≤ M) {zs : List Int} (h : within 1 m zs = true) : xfold (vals r m) zs = xfold (vals r M) zs :=
  xfold_tabs fun z hz => by
    obtain ⟨k, hk, e⟩ := List.getElem_of_mem hz
    have := within_get h k hk
    rw [e] at this
    exact (vals_get (by omega) hm).symm
noncomputable def vN (r : Int) (zs : List Int) : Int := if sask r zs then xfold (vals r 60) zs else 0
noncomputable def vW (r : Int) (zs : List Int) : Bool := vN r zs != 0

/-- The model's slValue. -/
theorem slValue_any (r : Int) (A : Option Addr) (n c B : Nat) (zs : List Int) (w : World) (hr : Ints w B A n zs) (hB : B ≤ w.heap.size) (hn : n ≤ 1000) (hrule : srule r = true) (hz : within 1 60 zs = true) :
    Calls Try.prog 23 #[.int .i64 r, .slice A n c] w fun e w' => e = .returned (.int .i64 (xfold (vals r 60) zs)) ∧ Below w.heap.size w w' := by
  obtain rfl := hr.len
  have HV := hide (fun W => slValues_any r 60 (Nat.le_refl _) hrule W)
  have HL := hide (vals_length r 60)
  have HT := hide (vals_bd r 60)
  have HZ := hide hz
  generalize vals r 60 = t at *
  clear hz hrule
  go_enter Try.func23, Try.ntmps23
  go_wp2_with fail
  refine (HV.out _).mono ?_
  rintro e w1 ⟨A1, c1, rfl, h1, h2, hown, hb⟩
  have hx := hown.ints
  have hr1 := hr.below hb hB
  rw [HL.out] at hx h1 ⊢
  clear hown
  go_wp2_with fail
  go_loop [6, 13] (fun s i => ∃ k : Nat, k ≤ zs.length ∧ i = .int .i64 k ∧ s = .int .i64 (xfold t (zs.take k)))
    (fun _ i => zs.length - (intOf i).toNat)
  case atStart => exact ⟨0, Nat.zero_le _, rfl, rfl⟩
  case round =>
    obtain ⟨k, hk, rfl, rfl⟩ := hrel
    by_cases hlt : k < zs.length
    · have Hs := hide (xfold_succ t zs k hlt)
      have hzk := within_get HZ.out k hlt
      obtain ⟨ad, rfl, hab, hcell⟩ := hr1.at_ hlt
      rw [show zs.getD k 0 = zs[k] from by simp [List.getD, List.getElem?_eq_getElem hlt]] at hcell
      obtain ⟨ad2, had, _, hcell2⟩ := hx.at_ (k := zs[k].toNat) (by omega)
      subst had
      generalize hzz : zs[k] = z at *
      clear hzz
      obtain ⟨q, rfl⟩ := Int.eq_ofNat_of_zero_le (show 0 ≤ z by omega)
      rw [Int.toNat_natCast] at Hs hcell2
      have hq : (q : Int) < (61 : Int) := by omega
      generalize xfold t (zs.take k) = S at *
      generalize t.getD q 0 = v at *
      go_wp2_with fail
      go_round
      case rel => exact ⟨k + 1, by omega, by go_num, by rw [Hs.out]; rfl⟩
      case measure => simp [intOf]; omega
    · go_wp2_with fail
      go_ret
      exact ⟨by rw [List.take_of_length_le (by omega)]; rfl, hb⟩

/-- The program's valueBy. -/
theorem valueBy_any (r : Int) (A : Option Addr) (n c B : Nat) (zs : List Int) (Av : Option Addr) (m cv Bv : Nat) (t : List Int) (w : World) (hr : Ints w B A n zs) (hB : B ≤ w.heap.size) (hn : n ≤ 1000) (ht : Ints w Bv Av (m + 1) t) (hBv : Bv ≤ w.heap.size) (hm : m ≤ 60) (hz : within 1 m zs = true) :
    Calls Try.prog 25 #[.agg #[.int .i64 r, .slice A n c], .slice Av (m + 1) cv] w fun e w' => e = .returned (.int .i64 (xfold t zs)) ∧ Below w.heap.size w w' := by
  obtain rfl := hr.len
  have HZ := hide hz
  clear hz
  have hr1 := hr.alloc hB (.cells #[.int .i64 r, .slice A zs.length c] 40)
  have hx := ht.alloc hBv (.cells #[.int .i64 r, .slice A zs.length c] 40)
  have hb : Below w.heap.size w (w.alloc (.cells #[.int .i64 r, .slice A zs.length c] 40)) := (Below.refl _ _).alloc (Nat.le_refl _) _
  clear ht
  go_enter Try.func25, Try.ntmps25
  go_wp2_with fail
  generalize (w.alloc (.cells #[.int .i64 r, .slice A zs.length c] 40)) = W1 at *
  go_loop [5, 11] (fun s i => ∃ k : Nat, k ≤ zs.length ∧ i = .int .i64 k ∧ s = .int .i64 (xfold t (zs.take k)))
    (fun _ i => zs.length - (intOf i).toNat)
  case atStart => exact ⟨0, Nat.zero_le _, rfl, rfl⟩
  case round =>
    obtain ⟨k, hk, rfl, rfl⟩ := hrel
    by_cases hlt : k < zs.length
    · have Hs := hide (xfold_succ t zs k hlt)
      have hzk := within_get HZ.out k hlt
      obtain ⟨ad, rfl, hab, hcell⟩ := hr1.at_ hlt
      rw [show zs.getD k 0 = zs[k] from by simp [List.getD, List.getElem?_eq_getElem hlt]] at hcell
      obtain ⟨ad2, had, _, hcell2⟩ := hx.at_ (k := zs[k].toNat) (by omega)
      subst had
      generalize hzz : zs[k] = z at *
      clear hzz
      obtain ⟨q, rfl⟩ := Int.eq_ofNat_of_zero_le (show 0 ≤ z by omega)
      rw [Int.toNat_natCast] at Hs hcell2
      have hq : (q : Int) < ((m + 1 : Nat) : Int) := by omega
      generalize xfold t (zs.take k) = S at *
      generalize t.getD q 0 = v at *
      go_wp2_with fail
      go_round
      case rel => exact ⟨k + 1, by omega, by go_num, by rw [Hs.out]; rfl⟩
      case measure => simp [intOf]; omega
    · go_wp2_with fail
      go_ret
      exact ⟨by rw [List.take_of_length_le (by omega)]; rfl, hb⟩

theorem mx_in {zs : List Int} {b : Int} (h0 : 0 < zs.length) (h : within 1 b zs = true) : 1 ≤ mx zs ∧ mx zs ≤ b := by
  obtain ⟨k, hk, e⟩ := List.getElem_of_mem (mx_mem h0)
  rw [← e]; exact within_get h k hk
theorem mx_fold : ∀ (zs : List Int) (s : Int), s ≤ zs.foldl max s ∧ ∀ (k : Nat) (hk : k < zs.length), zs[k] ≤ zs.foldl max s
  | [], s => ⟨Int.le_refl _, fun k hk => absurd hk (by simp)⟩
  | z :: zs, s => by
    have ih := mx_fold zs (max s z)
    refine ⟨by rw [List.foldl_cons]; omega, fun k hk => ?_⟩
    rw [List.foldl_cons]
    cases k with
    | zero => simp only [List.getElem_cons_zero]; omega
    | succ k => simp only [List.getElem_cons_succ]; exact ih.2 k (by simpa using hk)
theorem mx_ge {zs : List Int} (k : Nat) (hk : k < zs.length) : zs[k] ≤ mx zs := (mx_fold zs _).2 k hk
theorem within_mx {zs : List Int} {b : Int} (h : within 1 b zs = true) : within 1 (mx zs) zs = true := within_of fun k hk => ⟨(within_get h k hk).1, mx_ge k hk⟩

/-- The program's values. -/
theorem values_any (r : Int) (A : Option Addr) (n c B : Nat) (zs : List Int) (w : World) (hr : Ints w B A n zs) (hB : B ≤ w.heap.size) (h0 : 0 < n) (hn : n ≤ 1000) (hrule : srule r = true) (hz : within 1 60 zs = true) :
    Calls Try.prog 26 #[.agg #[.int .i64 r, .slice A n c]] w (Made (vals r (mx zs).toNat) w) := by
  obtain rfl := hr.len
  have hmx := mx_in h0 hz
  have HM := hide (fun W (h : Ints W B A zs.length zs) => Max_any A zs.length c B zs W h h0 (by omega))
  have HV := hide (fun W => splitValues_any r (mx zs).toNat (by omega) (by omega) hrule W)
  rw [show (((mx zs).toNat : Nat) : Int) = mx zs from by omega] at HV
  generalize vals r (mx zs).toNat = L at *
  generalize mx zs = M at *
  have hr1 := hr.alloc hB (.cells #[.int .i64 r, .slice A zs.length c] 40)
  have hb : Below w.heap.size w (w.alloc (.cells #[.int .i64 r, .slice A zs.length c] 40)) := (Below.refl _ _).alloc (Nat.le_refl _) _
  have X0 : Bx (w.alloc (.cells #[.int .i64 r, .slice A zs.length c] 40)) w.heap.size 40 (.int .i64 r) (.slice A zs.length c) := Bx.new _ _ _ _
  clear hz hrule
  go_enter Try.func26, Try.ntmps26
  go_wp2_with fail
  generalize (w.alloc (.cells #[.int .i64 r, .slice A zs.length c] 40)) = W1 at *
  have HK := hide (fun W' (h : Below W1.heap.size W1 W') => And.intro h (And.intro (X0.next h).c0 (X0.next h).c1))
  have HM1 := hide (fun W (h : Below W1.heap.size W1 W) => HM.out W (hr1.below h (by have := hb.size; omega)))
  go_region_held3 (fun W => Below W1.heap.size W1 W ∧ W.cell? ⟨w.heap.size, 0, none⟩ = some (.int .i64 r) ∧ W.cell? ⟨w.heap.size, 1, none⟩ = some (.slice A zs.length c))
    (first | exact HK.out _ (Below.refl _ _).drew | exact HK.out _ (Below.trans (And.left (by assumption)) hb2) | go_keep)
    (first
    | (go_at_call 34; (with_reducible refine (HM1.out _ (And.left (by assumption))).mono ?_); rintro e w2 ⟨rfl, rfl⟩)
    | (go_at_call 29; (with_reducible refine (HV.out _).mono ?_); rintro e w2 ⟨A2, c2, rfl, h1, h2, hown, hb2⟩))
  go_wp2_with fail
  go_ret
  exact ⟨A2, c2, rfl, h1, h2, hown.less (by have := hb.size; simp <;> omega), hb.trans (((Below.refl _ W1).drew.trans hb2).mono hb.size)⟩
end Go.Proofs.Ytlaapnfinbancaa
