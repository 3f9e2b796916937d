import Derived.Test.YtediapekgbekeaaMg03
import Derived.Test.YtediapekgbekeaaMg04
import Derived.Deep.QuietTactic
import Derived.BigQuiet

/-
  THE CURSOR THAT DRAWS FROM BYTES: next, pick.
-/
namespace Go.Proofs.Ytediapekgbekeaa
open Go.RowKit Go.Deep
set_option linter.unusedVariables false

/-- The slice value '.slice A n c' holds n bytes, below block B. -/
def Bys (w : World) (B : Nat) (A : Option Addr) (n : Nat) : Prop :=
  0 < n → ∃ ad, A = some ad ∧ ad.block < B ∧ ∀ k, k < n → ∃ v : Int, 0 ≤ v ∧ v ≤ 255 ∧ w.cell? (ad.add k) = some (.int .u8 v)
theorem Bys.keep {w w' : World} {B n : Nat} {A : Option Addr} (h : Bys w B A n) (hk : ∀ g, g < B → w'.heap[g]? = w.heap[g]?) : Bys w' B A n := fun hn => by
  obtain ⟨ad, e, hb, hc⟩ := h hn
  refine ⟨ad, e, hb, fun k hk' => ?_⟩
  obtain ⟨v, h1, h2, h3⟩ := hc k hk'
  refine ⟨v, h1, h2, ?_⟩
  rw [cell_of_block (hk (ad.add k).block (by rw [block_of_add]; exact hb))]
  exact h3
theorem Bys.more {w : World} {B B' n : Nat} {A : Option Addr} (h : Bys w B A n) (hB : B ≤ B') : Bys w B' A n := fun hn => by
  obtain ⟨ad, e, hb, hc⟩ := h hn
  exact ⟨ad, e, by omega, hc⟩

/-- A cursor at block b: its bytes lie below it; it has gone at most m steps. -/
def Cur (w : World) (b m : Nat) : Prop :=
  ∃ (A : Option Addr) (n c : Nat) (t s : Int), w.heap[b]? = some (.cells #[.slice A n c, .int .i64 t, .int .u64 s] 61 (0, 0)) ∧ Bys w b A n ∧ n ≤ 1048576 ∧ 0 ≤ t ∧ t ≤ m ∧ 0 ≤ s ∧ s ≤ 18446744073709551615
theorem Cur.keep {w w' : World} {b m : Nat} (h : Cur w b m) (hk : ∀ g, g ≤ b → w'.heap[g]? = w.heap[g]?) : Cur w' b m := by
  obtain ⟨A, n, c, t, s, h1, h2, h3⟩ := h
  exact ⟨A, n, c, t, s, (hk b (Nat.le_refl _)).trans h1, h2.keep (fun g hg => hk g (by omega)), h3⟩
theorem Cur.lt {w : World} {b m : Nat} (h : Cur w b m) : b < w.heap.size := by
  obtain ⟨A, n, c, t, s, h1, _⟩ := h
  exact lt_of_block h1
theorem Cur.far {w : World} {b m m' : Nat} (h : Cur w b m) (hm : m ≤ m') : Cur w b m' := by
  obtain ⟨A, n, c, t, s, h1, h2, h3, h4, h5, h6⟩ := h
  exact ⟨A, n, c, t, s, h1, h2, h3, h4, by omega, h6⟩
/-- What a step of the cursor at b leaves. -/
structure Went (b m : Nat) (w w' : World) : Prop where
  cur : Cur w' b m
  below : Below b w w'
  save : Save b w w'
theorem Save.trans {g : Nat} {a b c : World} (h : Save g a b) (k : Save g b c) (hs : a.heap.size ≤ b.heap.size) : Save g a c := fun x hx hn => (k x (by omega) hn).trans (h x hx hn)
theorem Went.trans {b m m' : Nat} {w w1 w2 : World} (h : Went b m w w1) (k : Went b m' w1 w2) : Went b m' w w2 := ⟨k.cur, h.below.trans k.below, h.save.trans k.save h.below.size⟩

/-- A block of three cells. -/
def Tri (w : World) (b : Nat) (T : TypeId) (x y z : Value) : Prop := w.heap[b]? = some (.cells #[x, y, z] T (0, 0))
section
variable {w : World} {b : Nat} {T : TypeId} {x y z : Value}
theorem Tri.c0 (h : Tri w b T x y z) : w.cell? ⟨b, 0, none⟩ = some x := by simp [World.cell?, show w.heap[b]? = _ from h]
theorem Tri.c1 (h : Tri w b T x y z) : w.cell? ⟨b, 1, none⟩ = some y := by simp [World.cell?, show w.heap[b]? = _ from h]
theorem Tri.c2 (h : Tri w b T x y z) : w.cell? ⟨b, 2, none⟩ = some z := by simp [World.cell?, show w.heap[b]? = _ from h]
theorem Tri.f (h : Tri w b T x y z) (j : Nat) : w.frozen? ⟨b, j, none⟩ = false := by simp [World.frozen?, show w.heap[b]? = _ from h]
theorem Tri.set1 (h : Tri w b T x y z) (v : Value) : Tri (w.setCell ⟨b, 1, none⟩ v) b T x v z := by
  have hlt := lt_of_block h
  have h' : w.heap[b] = .cells #[x, y, z] T (0, 0) := by simpa [Array.getElem?_eq_getElem hlt] using (show w.heap[b]? = _ from h)
  show (w.heap.modify b _)[b]? = _
  rw [Array.getElem?_eq_getElem (by simpa using hlt), Array.getElem_modify_self, h']
  rfl
theorem Tri.set2 (h : Tri w b T x y z) (v : Value) : Tri (w.setCell ⟨b, 2, none⟩ v) b T x y v := by
  have hlt := lt_of_block h
  have h' : w.heap[b] = .cells #[x, y, z] T (0, 0) := by simpa [Array.getElem?_eq_getElem hlt] using (show w.heap[b]? = _ from h)
  show (w.heap.modify b _)[b]? = _
  rw [Array.getElem?_eq_getElem (by simpa using hlt), Array.getElem_modify_self, h']
  rfl
end

theorem u64_wrap (x : Int) : 0 ≤ IntKind.u64.wrap x ∧ IntKind.u64.wrap x ≤ 18446744073709551615 := by
  have e : IntKind.u64.wrap x = x % 18446744073709551616 := by
    simp [IntKind.wrap, IntKind.bits, IntKind.signed]
  rw [e]
  omega
theorem bits_255 (x : Nat) (hx : x < 9223372036854775808) : ∃ r : Nat, r ≤ 255 ∧ bits BinOp.and IntKind.u64 (x : Int) 255 = (r : Int) := by
  refine ⟨x &&& 255, Nat.and_le_right, ?_⟩
  have h := bits_and_u x 255 hx (by omega)
  exact h
theorem Save.set {b : Nat} {w w' : World} (h : Save b w w') (j : Nat) (v : Value) : Save b w (w'.setCell ⟨b, j, none⟩ v) := fun g hg hn => (Below.heap_setCell _ _ _ _ hn).trans (h g hg hn)

/-- What is held of the world while the cursor is read. -/
structure CurAt (b : Nat) (w W : World) (A : Option Addr) (n c : Nat) (t s : Int) : Prop where
  tri : Tri W b 61 (.slice A n c) (.int .i64 t) (.int .u64 s)
  below : Below b w W
  save : Save b w W
  bys : Bys W b A n
theorem CurAt.drewN {b : Nat} {w W : World} {A : Option Addr} {n c : Nat} {t s : Int} (h : CurAt b w W A n c t s) (q : Nat) : CurAt b w (W.drewN q) A n c t s :=
  ⟨h.tri, below_drewN h.below q, h.save.drewN q, h.bys⟩
theorem CurAt.after {b : Nat} {w W : World} {A : Option Addr} {n c : Nat} {t s : Int} (h : CurAt b w W A n c t s) (t' s' : Int) :
    CurAt b w ((W.setCell ⟨b, 1, none⟩ (.int .i64 t')).setCell ⟨b, 2, none⟩ (.int .u64 s')) A n c t' s' :=
  ⟨(h.tri.set1 _).set2 _, (h.below.setCell (Nat.le_refl b) _).setCell (Nat.le_refl b) _, (h.save.set 1 _).set 2 _, h.bys.keep fun g hg => by
    rw [Below.heap_setCell _ _ _ _ (by show g ≠ b; omega), Below.heap_setCell _ _ _ _ (by show g ≠ b; omega)]⟩
theorem CurAt.went {b m : Nat} {w W : World} {A : Option Addr} {n c : Nat} {t s : Int} (h : CurAt b w W A n c t s) (hn : n ≤ 1048576) (h0 : 0 ≤ t) (h1 : t ≤ m) (h2 : 0 ≤ s ∧ s ≤ 18446744073709551615) : Went b m w W :=
  ⟨⟨A, n, c, t, s, h.tri, h.bys, hn, h0, h1, h2.1, h2.2⟩, h.below, h.save⟩
theorem lt_of_tri {w : World} {b : Nat} {T : TypeId} {x y z : Value} (h : Tri w b T x y z) : b < w.heap.size := lt_of_block h

set_option maxRecDepth 100000 in
set_option maxHeartbeats 2000000 in
theorem next_any (b m : Nat) (w : World) (h : Cur w b m) (hm : m ≤ 1000000000) :
    Calls Try.prog 85 #[.pointer (some ⟨b, 0, none⟩)] w fun e w' => ∃ r : Nat, r ≤ 255 ∧ e = .returned (.int .i64 r) ∧ Went b (m + 1) w w' := by
  obtain ⟨A, n, c, t, s, h1, h2, hn, ht0, ht1, hs0, hs1⟩ := h
  have X0 : CurAt b w w A n c t s := ⟨h1, Below.refl _ _, Save.refl _ _, h2⟩
  obtain ⟨tn, rfl⟩ : ∃ tn : Nat, t = (tn : Int) := ⟨t.toNat, by omega⟩
  have a0 := X0.tri.c0
  have a1 := X0.tri.c1
  have X := hide X0
  clear h1 h2 X0
  by_cases hlt : (tn : Int) < (n : Int)
  · obtain ⟨ad, rfl, hab, hc⟩ := X.out.bys (show 0 < n by omega)
    clear hc
    go_enter Try.func85, Try.ntmps85
    go_wp2_with fail
    go_quiet (fail)
    have X := hide (X.out.drewN nq)
    generalize w.drewN nq = w1 at *
    clear a0 a1
    have a0 := X.out.tri.c0
    have a1 := X.out.tri.c1
    obtain ⟨ad', e, _, hc⟩ := X.out.bys (show 0 < n by omega)
    injection e with e
    subst e
    obtain ⟨v, hv0, hv1, hcv⟩ := hc tn (by omega)
    clear hc
    go_wp2_with fail
    go_quiet (fail)
    have X := hide (X.out.drewN nq)
    clear a0 a1 hcv
    generalize w1.drewN nq = w2 at *
    have a0 := X.out.tri.c0
    have a1 := X.out.tri.c1
    have a2 := X.out.tri.c2
    have af := X.out.tri.f 1
    have ag := X.out.tri.f 2
    go_wp2_with fail
    have X := hide (X.out.after ((tn : Int) + 1) (IntKind.u64.wrap (IntKind.u64.wrap (IntKind.u64.wrap (s * 6364136223846793005) + v) + 1442695040888963407)))
    have hw := hide (u64_wrap (IntKind.u64.wrap (IntKind.u64.wrap (s * 6364136223846793005) + v) + 1442695040888963407))
    clear a0 a1 a2 af ag
    generalize IntKind.u64.wrap (IntKind.u64.wrap (IntKind.u64.wrap (s * 6364136223846793005) + v) + 1442695040888963407) = s' at *
    generalize (w2.setCell ⟨b, 1, none⟩ (.int .i64 ((tn : Int) + 1))).setCell ⟨b, 2, none⟩ (.int .u64 s') = w3 at *
    have a0 := X.out.tri.c0
    have a1 := X.out.tri.c1
    have hle : (tn : Int) + 1 ≤ (n : Int) := by omega
    go_quiet (fail)
    go_wp2_with fail
    go_ret
    obtain ⟨r, rfl⟩ : ∃ r : Nat, v = (r : Int) := ⟨v.toNat, by omega⟩
    exact ⟨r, by omega, rfl, (X.out.drewN nq).went hn (by omega) (by omega) hw.out⟩
  · have hge : (n : Int) ≤ (tn : Int) := by omega
    go_enter Try.func85, Try.ntmps85
    go_wp2_with fail
    go_quiet (fail)
    have X := hide (X.out.drewN nq)
    generalize w.drewN nq = w2 at *
    clear a0 a1
    have a0 := X.out.tri.c0
    have a1 := X.out.tri.c1
    have a2 := X.out.tri.c2
    have af := X.out.tri.f 1
    have ag := X.out.tri.f 2
    go_wp2_with fail
    have X := hide (X.out.after ((tn : Int) + 1) (IntKind.u64.wrap (IntKind.u64.wrap (IntKind.u64.wrap (s * 6364136223846793005)) + 1442695040888963407)))
    have hw := hide (u64_wrap (IntKind.u64.wrap (IntKind.u64.wrap (s * 6364136223846793005)) + 1442695040888963407))
    clear a0 a1 a2 af ag
    generalize IntKind.u64.wrap (IntKind.u64.wrap (IntKind.u64.wrap (s * 6364136223846793005)) + 1442695040888963407) = s' at *
    generalize (w2.setCell ⟨b, 1, none⟩ (.int .i64 ((tn : Int) + 1))).setCell ⟨b, 2, none⟩ (.int .u64 s') = w3 at *
    have a0 := X.out.tri.c0
    have a1 := X.out.tri.c1
    have hle : ¬ (tn : Int) + 1 ≤ (n : Int) := by omega
    go_quiet (fail)
    have X := hide (X.out.drewN nq)
    generalize w3.drewN nq = w4 at *
    have a2 := X.out.tri.c2
    obtain ⟨sn, rfl⟩ : ∃ sn : Nat, s' = (sn : Int) := ⟨s'.toNat, by have := hw.out; omega⟩
    obtain ⟨r, hr, er⟩ := bits_255 (sn / 1099511627776) (by have := hw.out; omega)
    rw [show ((sn / 1099511627776 : Nat) : Int) = (sn : Int) / 1099511627776 from by omega] at er
    have hrb : r ≤ 255 := hr
    go_wp2_with fail
    go_ret
    exact ⟨r, hr, rfl, X.out.went hn (by omega) (by omega) hw.out⟩

set_option maxRecDepth 100000 in
/-- A number from 0 to n - 1. -/
theorem pick_any (b m : Nat) (n : Int) (w : World) (h : Cur w b m) (hm : m ≤ 1000000) (hn : n ≤ 1000000) :
    Calls Try.prog 70 #[.pointer (some ⟨b, 0, none⟩), .int .i64 n] w fun e w' => ∃ r : Nat, ((r : Int) < n ∨ r = 0) ∧ e = .returned (.int .i64 r) ∧ Went b (m + 2) w w' := by
  by_cases h1 : n ≤ 1
  · go_enter Try.func70, Try.ntmps70
    go_wp2_with fail
    go_ret
    exact ⟨0, .inr rfl, rfl, h.far (by omega), Below.refl _ _, Save.refl _ _⟩
  · obtain ⟨k, rfl⟩ : ∃ k : Nat, n = (k : Int) := ⟨n.toNat, by omega⟩
    have HN := hide (next_any b m w h (by omega))
    by_cases h2 : 200 < (k : Int)
    · go_enter Try.func70, Try.ntmps70
      go_wp2_with fail
      refine HN.out.mono ?_; rintro e w1 ⟨r1, hr1, rfl, W1⟩
      have X1 := hide W1
      clear W1
      go_wp2_with fail
      refine (next_any b (m + 1) w1 X1.out.cur (by omega)).mono ?_; rintro e w2 ⟨r2, hr2, rfl, W2⟩
      have X2 := hide (X1.out.trans W2)
      clear W2
      have hk : ((k : Nat) : Int) ≠ 0 := by omega
      go_wp2_with fail
      go_ret
      refine ⟨(r1 * 256 + r2) % k, ?_, ?_, X2.out⟩
      · left
        have := Nat.mod_lt (r1 * 256 + r2) (show 0 < k by omega)
        omega
      · push_cast; rfl
    · go_enter Try.func70, Try.ntmps70
      go_wp2_with fail
      refine HN.out.mono ?_; rintro e w1 ⟨r1, hr1, rfl, W1⟩
      have X1 := hide W1
      clear W1
      have hk : ((k : Nat) : Int) ≠ 0 := by omega
      go_wp2_with fail
      go_ret
      refine ⟨r1 % k, ?_, ?_, ⟨X1.out.cur.far (by omega), X1.out.below, X1.out.save⟩⟩
      · left
        have := Nat.mod_lt r1 (show 0 < k by omega)
        omega
      · push_cast; rfl
end Go.Proofs.Ytediapekgbekeaa
