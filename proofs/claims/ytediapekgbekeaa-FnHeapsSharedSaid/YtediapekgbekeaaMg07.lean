import Derived.Test.YtediapekgbekeaaMg05
import Derived.Test.YtediapekgbekeaaMg06
import Derived.Test.YtediapekgbekeaaMg01

/-
  ONE OF SO MANY LISTS, AS THE CURSOR PICKS: what is held while a list of lists is laid and one of them is read, in whatever order.
-/
namespace Go.Proofs.Ytediapekgbekeaa
open Go.RowKit Go.Deep
set_option linter.unusedVariables false

theorem ready_all {ops : Array Oper} {md : Region.Mode} {listed : Array Bool} (hs : listed.size = ops.size) (hf : (List.range ops.size).all (fun i => ((ops[i]?).map fun o => o.after.all fun e => decide (e.on < i)).getD true) = true) (hr : Region.ready md ops listed = []) : ∀ i, i < ops.size → listed.getD i false = true := by
  intro i
  induction i using Nat.strongRecOn with
  | _ i ih =>
    intro hi
    cases hl : listed.getD i false with
    | true => rfl
    | false =>
      have hlt : listed.getD i true = false := by
        have : i < listed.size := by omega
        simp [Array.getD, this] at hl ⊢
        exact hl
      have : i ∈ Region.ready md ops listed := ready_iff.2 ⟨hi, hlt, ops[i], by simp [hi], fun e he hb => by
        have h1 := List.all_eq_true.1 hf i (List.mem_range.2 hi)
        simp only [Array.getElem?_eq_getElem hi, Option.map_some, Option.getD_some] at h1
        have h2 := Array.all_eq_true'.1 h1 e he
        exact ih e.on (of_decide_eq_true h2) (Nat.lt_trans (of_decide_eq_true h2) hi)⟩
      rw [hr] at this
      cases this

/-- Few numbers of modest size. -/
def NiceL (zs : List Int) : Prop := zs.length ≤ 20 ∧ within (-1000000) 1000000 zs = true
/-- A list of the call's own, of few numbers. -/
def Nice (w : World) (base : Nat) (v : Value) : Prop := ∃ (zs : List Int) (A : Option Addr) (c : Nat), v = .slice A zs.length c ∧ NiceL zs ∧ Own w base 3 (.slice A zs.length c) zs
def AtNice (w : World) (base : Nat) (v : Value) : Prop := ∃ (p : Addr) (x : Value), v = .pointer (some p) ∧ base ≤ p.block ∧ p.block < w.heap.size ∧ w.cell? p = some x ∧ Nice w base x
def BigRow (w : World) (base k : Nat) (v : Value) : Prop := ∃ (g : Nat) (vs : List Value), v = .slice (some ⟨g, 0, none⟩) k k ∧ base ≤ g ∧ vs.length = k ∧ w.heap[g]? = some (.cells vs.toArray 24 (0, 0)) ∧ ∀ x ∈ vs, Nice w base x
/-- What is held of the world. -/
structure ChoiceW (b m base : Nat) (w0 w : World) (lc : Bool) : Prop where
  cur : Cur w b (if lc then m + 2 else m)
  below : Below b w0 w
  save : Save b w0 w
  lo : b < base
  hi : base ≤ w.heap.size
section
variable {b m base k : Nat} {w0 w w' : World} {lc : Bool} {v : Value} {zs : List Int}
theorem Nice.keep (h : Nice w base v) (hk : ∀ g, base ≤ g → g < w.heap.size → w'.heap[g]? = w.heap[g]?) : Nice w' base v := by
  obtain ⟨zs, A, c, e, hn, ho⟩ := h
  exact ⟨zs, A, c, e, hn, ho.keep hk⟩
theorem Nice.alloc (h : Nice w base v) (o : Obj) : Nice (w.alloc o) base v := h.keep fun _ _ hg => Below.heap_alloc _ _ _ hg
theorem Nice.went (h : Nice w base v) (hs : Save b w w') (hb : b < base) : Nice w' base v := h.keep fun g hg hl => hs g hl (by omega)
theorem BigRow.keep (h : BigRow w base k v) (hk : ∀ g, base ≤ g → g < w.heap.size → w'.heap[g]? = w.heap[g]?) : BigRow w' base k v := by
  obtain ⟨g, vs, e, hb, hl, hg, hn⟩ := h
  exact ⟨g, vs, e, hb, hl, (hk g hb (lt_of_block hg)).trans hg, fun x hx => (hn x hx).keep hk⟩
theorem AtNice.keep (h : AtNice w base v) (hk : ∀ g, base ≤ g → g < w.heap.size → w'.heap[g]? = w.heap[g]?) (hs : w.heap.size ≤ w'.heap.size) : AtNice w' base v := by
  obtain ⟨p, x, e, hb, hl, hc, hn⟩ := h
  exact ⟨p, x, e, hb, by omega, (cell_of_block (hk p.block hb hl)).trans hc, hn.keep hk⟩
theorem BigRow.alloc (h : BigRow w base k v) (o : Obj) : BigRow (w.alloc o) base k v := h.keep fun _ _ hg => Below.heap_alloc _ _ _ hg
theorem AtNice.alloc (h : AtNice w base v) (o : Obj) : AtNice (w.alloc o) base v := h.keep (fun _ _ hg => Below.heap_alloc _ _ _ hg) (by simp)
theorem BigRow.went (h : BigRow w base k v) (hs : Save b w w') (hb : b < base) : BigRow w' base k v := h.keep fun g hg hl => hs g hl (by omega)
theorem AtNice.went (h : AtNice w base v) (hs : Save b w w') (hb : b < base) (hz : w.heap.size ≤ w'.heap.size) : AtNice w' base v := h.keep (fun g hg hl => hs g hl (by omega)) hz
theorem ChoiceW.alloc (h : ChoiceW b m base w0 w lc) (o : Obj) : ChoiceW b m base w0 (w.alloc o) lc :=
  ⟨h.cur.keep fun g hg => Below.heap_alloc _ _ _ (by have := h.hi; have := h.lo; omega), h.below.alloc (by have := h.hi; have := h.lo; omega) _, fun g hg hn => (Below.heap_alloc _ _ _ (by have := h.below.size; omega)).trans (h.save g hg hn), h.lo, by have := h.hi; simp; omega⟩
theorem ChoiceW.went (h : ChoiceW b m base w0 w false) (hw : Went b (m + 2) w w') : ChoiceW b m base w0 w' true :=
  ⟨hw.cur, h.below.trans hw.below, h.save.trans hw.save h.below.size, h.lo, by have := h.hi; have := hw.below.size; omega⟩
theorem Nice.new (w : World) (base : Nat) (zs : List Int) (hb : base ≤ w.heap.size) (hn : NiceL zs) : Nice (w.alloc (.cells (zs.map (Value.int .i64)).toArray 3)) base (.slice (some ⟨w.heap.size, 0, none⟩) zs.length zs.length) := by
  have e : (w.alloc (.cells (zs.map (Value.int .i64)).toArray 3)).heap[w.heap.size]? = some (.cells (zs.map (Value.int .i64)).toArray 3 (0, 0)) := by
    show (w.heap.push _)[w.heap.size]? = _
    simp
  exact ⟨zs, _, _, rfl, hn, by simp, .inr ⟨w.heap.size, zs.length, _, rfl, hb, e, Nat.le_refl _, by have := hn.1; unfold maxLen; omega, by simp, by rw [Nat.mul_one]; show (zs.map (Value.int .i64)).take zs.length = _; exact List.take_of_length_le (by simp)⟩⟩
theorem Nice.zeros (w : World) (base n : Nat) (hb : base ≤ w.heap.size) (hn : n ≤ 20) : Nice (w.alloc (.cells (madeCells #[.int .i64 0] n) 3)) base (.slice (some ⟨w.heap.size, 0, none⟩) n n) := by
  have h := Own.of_row (Row.zeros w n 3) hb (by simp; unfold maxLen; omega)
  rw [List.length_replicate] at h
  refine ⟨List.replicate n 0, some ⟨w.heap.size, 0, none⟩, n, by simp, ⟨by simpa using hn, within_of fun k hk => by simp⟩, by simpa using h⟩
theorem Nice.nil (w : World) (base : Nat) : Nice w base (.slice none 0 0) := ⟨[], none, 0, rfl, ⟨by simp, by decide⟩, Own.nil _ _ _⟩
theorem BigRow.new (w : World) (base : Nat) (vs : List Value) (hb : base ≤ w.heap.size) (hn : ∀ x ∈ vs, Nice w base x) : BigRow (w.alloc (.cells vs.toArray 24)) base vs.length (.slice (some ⟨w.heap.size, 0, none⟩) vs.length vs.length) := by
  have e : (w.alloc (.cells vs.toArray 24)).heap[w.heap.size]? = some (.cells vs.toArray 24 (0, 0)) := by
    show (w.heap.push _)[w.heap.size]? = _
    simp
  exact ⟨_, vs, rfl, hb, rfl, e, fun x hx => (hn x hx).alloc _⟩
theorem BigRow.at_ {g : Nat} (h : BigRow w base k (.slice (some ⟨g, 0, none⟩) k k)) {r : Nat} (hr : r < k) : AtNice w base (.pointer (some ⟨g, r, none⟩)) := by
  obtain ⟨g', vs, e, hb, hl, hg, hn⟩ := h
  injection e with e1
  injection e1 with e1
  injection e1 with e1
  subst e1
  exact ⟨⟨g, r, none⟩, vs[r]'(by omega), rfl, hb, lt_of_block hg, by simp [World.cell?, hg, show r < vs.length by omega], hn _ (List.getElem_mem _)⟩
end
end Go.Proofs.Ytediapekgbekeaa

/-
  WHAT HEAPS ARE, BOTH WAYS: the program's AreHeaps, areWithin and the model's hpGood, l1All, l1In answer alike.
-/
namespace Go.Proofs.Ytediapekgbekeaa
open Go.RowKit Go.Deep

/-- The model's l1In. -/
theorem l1In_any (n lo hi : Int) (w : World) :
    Calls Try.prog 65 #[.int .i64 n, .int .i64 lo, .int .i64 hi] w fun e w' => e = .returned (.bool (decide (lo ≤ n ∧ n ≤ hi))) ∧ w = w' := by
  by_cases h1 : lo ≤ n
  · by_cases h2 : n ≤ hi
    all_goals
      go_enter Try.func65, Try.ntmps65
      go_wp2
      go_ret
      exact ⟨ret_bool (by simp; omega), rfl⟩
  · go_enter Try.func65, Try.ntmps65
    go_wp2
    go_ret
    exact ⟨ret_bool (by simp; omega), rfl⟩

/-- The program's areWithin. -/
theorem areWithin_any (A : Option Addr) (n c B : Nat) (zs : List Int) (lo hi : Int) (w : World) (hr : Ints w B A n zs) (hn : n ≤ 17592186044416) :
    Calls Try.prog 53 #[.slice A n c, .int .i64 lo, .int .i64 hi] w fun e w' => e = .returned (.bool (within lo hi zs)) ∧ w = w' := by
  have hlen := hr.len
  go_enter Try.func53, Try.ntmps53
  go_wp2
  go_loop [11] (fun i => ∃ k : Nat, k ≤ n ∧ i = .int .i64 k ∧ ∀ (j : Nat) (_ : j < zs.length), j < k → lo ≤ zs[j] ∧ zs[j] ≤ hi)
    (fun i => n - (intOf i).toNat)
  case atStart => exact ⟨0, Nat.zero_le _, rfl, fun j _ h => by omega⟩
  case round =>
    obtain ⟨k, hk, rfl, hall⟩ := hrel
    have Hall := hide hall
    clear hall
    by_cases hlt : k < n
    · have hkz : k < zs.length := by omega
      obtain ⟨ad, rfl, hab, hcell⟩ := hr.at_ hlt
      rw [show zs.getD k 0 = zs[k] from by simp [List.getD, List.getElem?_eq_getElem hkz]] at hcell
      by_cases h1 : lo ≤ zs[k]
      · by_cases h2 : zs[k] ≤ hi
        · go_wp2
          go_round
          case rel => exact ⟨k + 1, by omega, by go_num, fun j hj hjk => if e : j = k then by subst e; exact ⟨h1, h2⟩ else Hall.out j hj (by omega)⟩
          case measure => simp [intOf]; omega
        · have hw := within_not (lo := lo) (hi := hi) k hkz (fun h => h2 h.2)
          have Hw := hide hw
          clear hw
          go_wp2
          go_ret
          exact ⟨by rw [Hw.out]; rfl, rfl⟩
      · have hw := within_not (lo := lo) (hi := hi) k hkz (fun h => h1 h.1)
        have Hw := hide hw
        clear hw
        go_wp2
        go_ret
        exact ⟨by rw [Hw.out]; rfl, rfl⟩
    · go_wp2
      go_ret
      exact ⟨by rw [within_of (fun j hj => Hall.out j hj (by omega))]; rfl, rfl⟩

/-- The model's l1All. -/
theorem l1All_any (A : Option Addr) (n c B : Nat) (zs : List Int) (lo hi : Int) (w : World) (hr : Ints w B A n zs) (hn : n ≤ 17592186044416) :
    Calls Try.prog 66 #[.slice A n c, .int .i64 lo, .int .i64 hi] w fun e w' => e = .returned (.bool (within lo hi zs)) ∧ w = w' := by
  have hlen := hr.len
  go_enter Try.func66, Try.ntmps66
  go_wp2_with fail
  go_loop [11] (fun i => ∃ k : Nat, k ≤ n ∧ i = .int .i64 k ∧ ∀ (j : Nat) (_ : j < zs.length), j < k → lo ≤ zs[j] ∧ zs[j] ≤ hi)
    (fun i => n - (intOf i).toNat)
  case atStart => exact ⟨0, Nat.zero_le _, rfl, fun j _ h => by omega⟩
  case round =>
    obtain ⟨k, hk, rfl, hall⟩ := hrel
    have Hall := hide hall
    clear hall
    by_cases hlt : k < n
    · have hkz : k < zs.length := by omega
      obtain ⟨ad, rfl, hab, hcell⟩ := hr.at_ hlt
      rw [show zs.getD k 0 = zs[k] from by simp [List.getD, List.getElem?_eq_getElem hkz]] at hcell
      by_cases h1 : lo ≤ zs[k] ∧ zs[k] ≤ hi
      · have hd : decide (lo ≤ zs[k] ∧ zs[k] ≤ hi) = true := by simpa using h1
        go_wp2_with (go_at_call 65; refine (l1In_any _ _ _ _).mono ?_; rintro e w' ⟨rfl, rfl⟩; rw [hd])
        go_round
        case rel => exact ⟨k + 1, by omega, by go_num, fun j hj hjk => if e : j = k then by subst e; exact h1 else Hall.out j hj (by omega)⟩
        case measure => simp [intOf]; omega
      · have hd : decide (lo ≤ zs[k] ∧ zs[k] ≤ hi) = false := by simpa using h1
        have hw := within_not (lo := lo) (hi := hi) k hkz h1
        have Hw := hide hw
        clear hw h1
        go_wp2_with (go_at_call 65; refine (l1In_any _ _ _ _).mono ?_; rintro e w' ⟨rfl, rfl⟩; rw [hd])
        go_ret
        exact ⟨by rw [Hw.out]; rfl, rfl⟩
    · go_wp2_with fail
      go_ret
      exact ⟨by rw [within_of (fun j hj => Hall.out j hj (by omega))]; rfl, rfl⟩

theorem good_in {zs : List Int} (h : 1 ≤ zs.length ∧ zs.length ≤ 12) : good zs = within 0 1000 zs := by
  unfold good; simp [h]
theorem good_out {zs : List Int} (h : ¬ (1 ≤ zs.length ∧ zs.length ≤ 12)) : good zs = false := by
  unfold good; simp; omega

/-- The program's AreHeaps. -/
theorem AreHeaps_any (A : Option Addr) (n c B : Nat) (zs : List Int) (w : World) (hr : Ints w B A n zs) (hn : n ≤ 17592186044416) :
    Calls Try.prog 26 #[.slice A n c] w fun e w' => e = .returned (.bool (good zs)) ∧ w = w' := by
  have hlen := hr.len
  by_cases h1 : 1 ≤ n
  · by_cases h2 : n ≤ 12
    · have hg := good_in (zs := zs) (by omega)
      have Hg := hide hg
      clear hg
      have hw := areWithin_any A n c B zs 0 1000
      have Hw := hide hw
      clear hw
      go_enter Try.func26, Try.ntmps26
      go_wp2_with (go_at_call 53; refine (Hw.out _ hr hn).mono ?_; rintro e w' ⟨rfl, rfl⟩)
      go_ret
      exact ⟨by rw [Hg.out]; rfl, rfl⟩
    · have Hg := hide (good_out (zs := zs) (by omega))
      go_enter Try.func26, Try.ntmps26
      go_wp2_with fail
      go_ret
      exact ⟨by rw [Hg.out]; rfl, rfl⟩
  · have Hg := hide (good_out (zs := zs) (by omega))
    go_enter Try.func26, Try.ntmps26
    go_wp2_with fail
    go_ret
    exact ⟨by rw [Hg.out]; rfl, rfl⟩

/-- The model's hpGood. -/
theorem hpGood_any (A : Option Addr) (n c B : Nat) (zs : List Int) (w : World) (hr : Ints w B A n zs) (hn : n ≤ 17592186044416) :
    Calls Try.prog 52 #[.slice A n c] w fun e w' => e = .returned (.bool (good zs)) ∧ w = w' := by
  have hlen := hr.len
  by_cases h1 : 1 ≤ n ∧ n ≤ 12
  · have Hg := hide (good_in (zs := zs) (by omega))
    have hd : decide ((1 : Int) ≤ (n : Int) ∧ (n : Int) ≤ 12) = true := by simp; omega
    go_enter Try.func52, Try.ntmps52
    go_wp2_with fail
    refine (l1In_any _ _ _ _).mono ?_; rintro e w' ⟨rfl, rfl⟩; rw [hd]
    go_wp2_with fail
    refine (l1All_any _ _ _ _ _ _ _ _ hr hn).mono ?_; rintro e w' ⟨rfl, rfl⟩
    go_wp2_with fail
    go_ret
    exact ⟨by rw [Hg.out]; rfl, rfl⟩
  · have Hg := hide (good_out (zs := zs) (by omega))
    have hd : decide ((1 : Int) ≤ (n : Int) ∧ (n : Int) ≤ 12) = false := by simp; omega
    go_enter Try.func52, Try.ntmps52
    go_wp2_with fail
    refine (l1In_any _ _ _ _).mono ?_; rintro e w' ⟨rfl, rfl⟩; rw [hd]
    go_wp2_with fail
    go_ret
    exact ⟨by rw [Hg.out]; rfl, rfl⟩

/-- The model's AreHeaps. -/
theorem specAreHeaps_any (A : Option Addr) (n c B : Nat) (zs : List Int) (w : World) (hr : Ints w B A n zs) (hn : n ≤ 17592186044416) :
    Calls Try.prog 27 #[.slice A n c] w fun e w' => e = .returned (.bool (good zs)) ∧ w = w' := by
  go_enter Try.func27, Try.ntmps27
  go_wp2_with fail
  refine (hpGood_any _ _ _ _ _ _ hr hn).mono ?_; rintro e w' ⟨rfl, rfl⟩
  go_wp2_with fail
  go_ret
  exact ⟨rfl, rfl⟩
end Go.Proofs.Ytediapekgbekeaa
