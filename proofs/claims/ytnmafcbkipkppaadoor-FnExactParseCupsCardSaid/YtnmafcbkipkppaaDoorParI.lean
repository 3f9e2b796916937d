
/-
  TEXTS READ BACK BY THE PROGRAM: parseNumber, splitParts over numbers, ParseHeaps.
-/
import Derived.Test.YtnmafcbkipkppaaDoorParM
import Derived.Test.YtnmafcbkipkppaaDoorTextH
import Derived.Test.YtnmafcbkipkppaaDoorGood
import Derived.ChangeAgain
import Derived.Lib.AtoiErrMem
namespace Go.Proofs.YtnmafcbkipkppaaDoor
open Go.RowKit Go.Deep
set_option linter.unusedVariables false

/-- The world's shape is kept by what leaves the old blocks alone. -/
theorem shaped_below {P : Program} {w w' : World} (h : w.ShapedOpen P) (hb : Below w.heap.size w w') : w'.ShapedOpen P := by
  have same : ∀ {i : Nat} {o : Obj}, w.heap[i]? = some o → w'.heap[i]? = some o := by
    intro i o ho
    have hlt : i < w.heap.size := by
      rcases Nat.lt_or_ge i w.heap.size with h1 | h1
      · exact h1
      · rw [Array.getElem?_eq_none h1] at ho; cases ho
    rw [hb.block i hlt]; exact ho
  have shp : ∀ (b : Nat) x, w.shape? b = some x → w'.shape? b = some x := by
    intro b x hx
    unfold World.shape? at hx ⊢
    cases ho : w.heap[b]? with
    | none => rw [ho] at hx; simp at hx
    | some o => rw [same ho]; rw [ho] at hx; exact hx
  refine ⟨fun g zero t hg hz => ?_, fun k h1 h2 => ?_⟩
  · obtain ⟨cs, a1, a2, a3⟩ := h.1 g zero t hg hz
    exact ⟨cs, same a1, a2, fun hq => Row.ok_of_shape (fun b x => shp b x) (a3 hq)⟩
  · obtain ⟨o, o₀, a1, a2, a3⟩ := h.2 k h1 h2
    exact ⟨o, o₀, same a1, a2, a3⟩

theorem errSyn_g : Tryd.prog.globalNamed "strconv.ErrSyntax" = some 1 := by kernel_rfl
theorem errRan_g : Tryd.prog.globalNamed "strconv.ErrRange" = some 2 := by kernel_rfl
/-- What the readings ask of the variables. -/
def ErrP (w : World) : Prop := (∃ tp p, w.var? Tryd.prog "strconv.ErrSyntax" = some #[.iface tp p]) ∧ ∃ tp p, w.var? Tryd.prog "strconv.ErrRange" = some #[.iface tp p]
theorem ErrP.next {w w' : World} (h : ErrP w) (hb : Below w.heap.size w w') : ErrP w' := by
  obtain ⟨⟨t1, p1, h1⟩, t2, p2, h2⟩ := h
  exact ⟨⟨t1, p1, var_below h1 errSyn_g hb (var_lt h1 errSyn_g)⟩, t2, p2, var_below h2 errRan_g hb (var_lt h2 errRan_g)⟩
def LaidP (w : World) : Prop := TabP w ∧ ErrP w ∧ w.ShapedOpen Tryd.prog
theorem LaidP.next {w w' : World} (h : LaidP w) (hb : Below w.heap.size w w') : LaidP w' := ⟨h.1.next hb, h.2.1.next hb, shaped_below h.2.2 hb⟩

theorem bs_data (l : List UInt8) : (bs l).data.toList = l := by simp [bs]
theorem bs_inj {a b : List UInt8} (h : bs a = bs b) : a = b := by
  have := congrArg (fun s => s.data.toList) h
  simpa [bs] using this

/-! ### Atoi, one contract -/
inductive AtoiEnd (l : List UInt8) : Value → Prop
  | ok (v : Int) (h : Lib.atoiAll l = .ok v) : AtoiEnd l (.tuple #[.int .i64 v, .nilIface])
  | bad (n : Int) (t : TypeId) (p : Value) (h : ∀ v, Lib.atoiAll l ≠ .ok v) : AtoiEnd l (.tuple #[.int .i64 n, .iface t p])
theorem Atoi_any (l : List UInt8) (hl : l.length ≤ 1099511627776) (w : World) (hE : ErrP w) :
    Calls Tryd.prog 22 #[.string (bs l)] w fun e w' => ∃ v, e = .returned v ∧ AtoiEnd l v ∧ Below w.heap.size w w' := by
  obtain ⟨⟨t1, p1, h1⟩, t2, p2, h2⟩ := hE
  cases h : Lib.atoiAll l with
  | ok v =>
    refine (Tryd.strconv_Atoi_ok (bs l) (by rw [bs_len]; omega) v (by rw [bs_data]; exact h) w).mono ?_
    rintro e w' ⟨rfl, hw⟩
    refine ⟨_, rfl, .ok v h, ?_⟩
    rcases hw with rfl | ⟨t, rfl⟩
    · exact Below.refl _ _
    · exact Lib.bytesWorld_below _ _ _
  | «syntax» =>
    have hpn : ∀ v, Lib.atoiAll l ≠ .ok v := by intro v; rw [h]; intro e; cases e
    refine (Tryd.strconv_Atoi_syntax_var (bs l) (by rw [bs_len]; omega) (by rw [bs_data]; exact h) t1 p1 w h1).mono ?_
    rintro e w' ⟨N, rfl, _, _, hb⟩
    exact ⟨_, rfl, .bad _ _ _ hpn, hb⟩
  | range =>
    have hpn : ∀ v, Lib.atoiAll l ≠ .ok v := by intro v; rw [h]; intro e; cases e
    refine (Tryd.strconv_Atoi_range_var (bs l) (by rw [bs_len]; omega) (by rw [bs_data]; exact h) t2 p2 w h2).mono ?_
    rintro e w' ⟨N, rfl, _, _, hb⟩
    exact ⟨_, rfl, .bad _ _ _ hpn, hb⟩

theorem ItoaB_any (x : Int) (h0 : -9223372036854775808 ≤ x) (h1 : x ≤ 9223372036854775807) (w : World) (hT : TabP w) :
    Calls Tryd.prog 23 #[.int .i64 x] w fun e w' => e = .returned (.string (bs (Lib.itoa x))) ∧ Below w.heap.size w w' := by
  refine (Tryd.strconv_Itoa x h0 h1 w hT).mono ?_
  rintro e w' ⟨rfl, k, os, rfl⟩
  exact ⟨rfl, Lib.below_grow _ _ (Nat.le_refl _) _ _⟩

theorem bs_ne (a b : List UInt8) : ((bs a).toList == (bs b).toList) = decide (a = b) := by
  rw [show (bs a).toList = a from ByteArray.toList_mk a, show (bs b).toList = b from ByteArray.toList_mk b]
  by_cases h : a = b
  · subst h; simp
  · rw [decide_eq_false h]; simpa using h

set_option maxRecDepth 1000000 in
/-- The program's parseNumber. -/
theorem parseNumber_any (l : List UInt8) (hl : l.length ≤ 1099511627776) (w : World) (hP : LaidP w) :
    Calls Tryd.prog 12 #[.string (bs l)] w fun e w' => e = .returned (.tuple #[.int .i64 ((pn l).getD 0), .bool (pn l).isSome]) ∧ Below w.heap.size w w' := by
  have HA := hide (Atoi_any l hl w hP.2.1)
  have HP := hide hP
  clear hP
  by_cases hv : ∃ v, Lib.atoiAll l = .ok v ∧ 0 ≤ v
  · obtain ⟨v, hv, h0⟩ := hv
    have hbd := Lib.atoiAll_bounds hv
    have HI := hide (fun W (h : TabP W) => ItoaB_any v hbd.1 hbd.2 W h)
    have HN := hide (bs_ne (Lib.itoa v) l)
    have HV := hide hv
    have HQ := hide (show pn l = if Lib.itoa v = l then some v else none from by unfold pn; rw [hv]; simp only []; rw [if_neg (by omega)])
    clear hv
    generalize bs (Lib.itoa v) = s1 at *
    generalize bs l = s at *
    by_cases he : Lib.itoa v = l
    · have hne : (s1.toList == s.toList) = true := by rw [HN.out]; simp [he]
      have HE := hide (show pn l = some v from by rw [HQ.out, if_pos he])
      rw [HE.out]
      clear he
      go_enter Tryd.func12, Tryd.ntmps12
      go_wp2_with fail
      refine HA.out.mono ?_
      rintro e w1 ⟨r, rfl, ha, hb⟩
      cases ha with
      | bad n t p hq => exact absurd HV.out (hq v)
      | ok v' h' =>
        obtain rfl : v' = v := by have := h'.symm.trans HV.out; injection this
        clear h'
        go_wp2_with fail
        refine (HI.out _ (HP.out.next hb).1).mono ?_
        rintro e w2 ⟨rfl, hb2⟩
        go_wp2_with fail
        go_ret2
        exact ⟨rfl, below_next hb hb2⟩
    · have hne : (s1.toList == s.toList) = false := by rw [HN.out]; simp [he]
      have HE := hide (show pn l = none from by rw [HQ.out, if_neg he])
      rw [HE.out]
      clear he
      go_enter Tryd.func12, Tryd.ntmps12
      go_wp2_with fail
      refine HA.out.mono ?_
      rintro e w1 ⟨r, rfl, ha, hb⟩
      cases ha with
      | bad n t p hq => exact absurd HV.out (hq v)
      | ok v' h' =>
        obtain rfl : v' = v := by have := h'.symm.trans HV.out; injection this
        clear h'
        go_wp2_with fail
        refine (HI.out _ (HP.out.next hb).1).mono ?_
        rintro e w2 ⟨rfl, hb2⟩
        go_wp2_with fail
        go_ret2
        exact ⟨rfl, below_next hb hb2⟩
  · have HE := hide (show pn l = none from by
      unfold pn
      split
      · rename_i n hn
        rw [if_pos]
        rcases Int.lt_or_le n 0 with h | h
        · exact h
        · exact absurd ⟨n, hn, h⟩ hv
      · rfl)
    have HV := hide hv
    clear hv
    rw [HE.out]
    generalize bs l = s at *
    go_enter Tryd.func12, Tryd.ntmps12
    go_wp2_with fail
    refine HA.out.mono ?_
    rintro e w1 ⟨r, rfl, ha, hb⟩
    cases ha with
    | bad n t p hq =>
      go_wp2_with fail
      go_ret2
      exact ⟨rfl, hb⟩
    | ok v' h' =>
      have hneg : v' < 0 := by
        rcases Int.lt_or_le v' 0 with h | h
        · exact h
        · exact absurd ⟨v', h', h⟩ HV.out
      clear h'
      go_wp2_with fail
      go_ret2
      exact ⟨rfl, hb⟩
end Go.Proofs.YtnmafcbkipkppaaDoor
