
/-
  BEST PLANS, THE PROGRAM's WAY: what lies where; a block of three cells.
-/
import Derived.Test.YtfikkgnpednjfaaLkM
import Derived.Test.YtfikkgnpednjfaaSums
import Derived.Test.YtfikkgnpednjfaaCopy
import Derived.Test.YtfikkgnpednjfaaSpread
namespace Go.Proofs.Ytfikkgnpednjfaa
open Go.RowKit Go.Deep
set_option linter.unusedVariables false

/-- A block of three cells. -/
def Tx (w : World) (b : Nat) (T : TypeId) (x y z : Value) : Prop := w.heap[b]? = some (.cells #[x, y, z] T (0, 0))
section
variable {w w' : World} {b : Nat} {T : TypeId} {x y z : Value}
theorem Tx.lt (h : Tx w b T x y z) : b < w.heap.size := lt_of_block h
theorem Tx.c0 (h : Tx w b T x y z) : w.cell? ⟨b, 0, none⟩ = some x := by simp [World.cell?, show w.heap[b]? = _ from h]
theorem Tx.c1 (h : Tx w b T x y z) : w.cell? ⟨b, 1, none⟩ = some y := by simp [World.cell?, show w.heap[b]? = _ from h]
theorem Tx.c2 (h : Tx w b T x y z) : w.cell? ⟨b, 2, none⟩ = some z := by simp [World.cell?, show w.heap[b]? = _ from h]
theorem Tx.f (h : Tx w b T x y z) (j : Nat) : w.frozen? ⟨b, j, none⟩ = false := by simp [World.frozen?, show w.heap[b]? = _ from h]
theorem Tx.same (h : Tx w b T x y z) (e : w'.heap[b]? = w.heap[b]?) : Tx w' b T x y z := e.trans h
theorem Tx.next (h : Tx w b T x y z) (hb : Below w.heap.size w w') : Tx w' b T x y z := (hb.block b h.lt).trans h
theorem Tx.past (h : Tx w b T x y z) {a : Addr} (ha : b ≠ a.block) (v : Value) : Tx (w.setCell a v) b T x y z := (Below.heap_setCell _ _ _ _ ha).trans h
theorem Tx.new (w : World) (T : TypeId) (x y z : Value) : Tx (w.alloc (.cells #[x, y, z] T)) w.heap.size T x y z := by
  show (w.heap.push _)[w.heap.size]? = _
  simp
theorem Tx.put (h : Tx w b T x y z) (k : Nat) (v : Value) : (w.setCell ⟨b, k, none⟩ v).heap[b]? = some (.cells ((#[x, y, z] : Array Value).setIfInBounds k v) T (0, 0)) := by
  have hlt := h.lt
  have h' : w.heap[b] = .cells #[x, y, z] T (0, 0) := by simpa [Array.getElem?_eq_getElem hlt] using (show w.heap[b]? = _ from h)
  show (w.heap.modify b _)[b]? = _
  rw [Array.getElem?_eq_getElem (by simpa using hlt), Array.getElem_modify_self, h']
  rfl
theorem Tx.set0 (h : Tx w b T x y z) (v : Value) : Tx (w.setCell ⟨b, 0, none⟩ v) b T v y z := h.put 0 v
theorem Tx.set1 (h : Tx w b T x y z) (v : Value) : Tx (w.setCell ⟨b, 1, none⟩ v) b T x v z := h.put 1 v
theorem Tx.set2 (h : Tx w b T x y z) (v : Value) : Tx (w.setCell ⟨b, 2, none⟩ v) b T x y v := h.put 2 v
theorem Tx.drewN (h : Tx w b T x y z) (n : Nat) : Tx (w.drewN n) b T x y z := h
end
/-- A list of the call's own stays where it lies elsewhere. -/
theorem Own.kept {b0 x y z base : Nat} {W W' : World} {e : TypeId} {A : Option Addr} {n c : Nat} {zs : List Int} (h : Own W base e (.slice A n c) zs) (ha : Away x y z A) (hk : K3 b0 x y z W W') : Own W' base e (.slice A n c) zs := by
  refine ⟨h.1, ?_⟩
  rcases h.2 with h2 | ⟨g, cap, cur, hv, hb, hg, r⟩
  · exact .inl h2
  · have hA : A = some ⟨g, 0, none⟩ := by injection hv
    obtain ⟨n1, n2, n3⟩ := ha _ hA
    exact .inr ⟨g, cap, cur, hv, hb, (hk.sv g (Array.getElem?_eq_some_iff.1 hg).1 n1 n2 n3).trans hg, r⟩
theorem One.kept {b0 x y z b : Nat} {W W' : World} {t : TypeId} {v : Value} (h : One W b t v) (hn : b ≠ x ∧ b ≠ y ∧ b ≠ z) (hk : K3 b0 x y z W W') : One W' b t v := (hk.sv b h.lt hn.1 hn.2.1 hn.2.2).trans h

/-- The best plans so far, as they lie. -/
structure Best3 (W : World) (b0 x gp gl : Nat) (S : Bst) : Prop where
  ob : ∃ A c, Tx W x 34 (.int .i64 S.e) (.slice A S.p.length c) (.int .i64 (S.c : Int)) ∧ Own W b0 3 (.slice A S.p.length c) S.p ∧ Away x gp gl A
theorem Best3.call {W W' : World} {b0 x gp gl : Nat} {S : Bst} (h : Best3 W b0 x gp gl S) (hb : Below W.heap.size W W') : Best3 W' b0 x gp gl S := by
  obtain ⟨A, c, h1, h2, h3⟩ := h.ob
  exact ⟨A, c, h1.next hb, h2.below hb, h3⟩
/-- The variables. -/
structure Giv (W : World) (bj bx bp bl bg gp gl : Nat) (A : Option Addr) (c : Nat) (zs : List Int) (M : Nat) : Prop where
  jb : One W bj 22 (.slice A zs.length c)
  pb : One W bp 22 (.slice (some ⟨gp, 0, none⟩) zs.length zs.length)
  lb : One W bl 22 (.slice (some ⟨gl, 0, none⟩) M M)
  gb : One W bg 43 (.func (.func 25) #[] #[.pointer (some ⟨bj, 0, none⟩), .pointer (some ⟨bx, 0, none⟩), .pointer (some ⟨bp, 0, none⟩), .pointer (some ⟨bl, 0, none⟩), .pointer (some ⟨bg, 0, none⟩)])
  zr : Ints W W.heap.size A zs.length zs
/-- They are all different. -/
structure Dis (bj bx bp bl bg gp gl : Nat) : Prop where
  xp : bx ≠ gp ∧ bx ≠ gl ∧ gp ≠ gl
  j : bj ≠ bx ∧ bj ≠ gp ∧ bj ≠ gl
  p : bp ≠ bx ∧ bp ≠ gp ∧ bp ≠ gl
  l : bl ≠ bx ∧ bl ≠ gp ∧ bl ≠ gl
  g : bg ≠ bx ∧ bg ≠ gp ∧ bg ≠ gl
theorem Giv.kept {b0 bj bx bp bl bg gp gl c M : Nat} {W W' : World} {A : Option Addr} {zs : List Int} (h : Giv W bj bx bp bl bg gp gl A c zs M) (hd : Dis bj bx bp bl bg gp gl) (ha : Away bx gp gl A) (hk : K3 b0 bx gp gl W W') : Giv W' bj bx bp bl bg gp gl A c zs M :=
  ⟨h.jb.kept hd.j hk, h.pb.kept hd.p hk, h.lb.kept hd.l hk, h.gb.kept hd.g hk, h.zr.kept ha hk⟩

theorem Away.one {x y z : Nat} {A : Option Addr} (h : Away x y z A) : Away x x x A := fun ad e => ⟨(h ad e).1, (h ad e).1, (h ad e).1⟩
theorem K3.wide {b0 x y z : Nat} {W W' : World} (h : K3 b0 x x x W W') : K3 b0 x y z W W' := ⟨h.bl, fun b hb n1 _ _ => h.sv b hb n1 n1 n1⟩

set_option maxRecDepth 100000 in
/-- The program's see. -/
theorem see_any (b0 bx gp gl : Nat) (A : Option Addr) (n c : Nat) (P : List Int) (S : Bst) (e : Int) (W : World) (hp : Ints W W.heap.size A n P) (h1 : 1 ≤ n) (h9 : n ≤ 9) (hb : Best3 W b0 bx gp gl S) (hx : b0 ≤ bx) (hgp : gp < W.heap.size) (hgl : gl < W.heap.size)
    (he : S.c = 0 ∨ e < S.e ∨ (0 < S.c ∧ e = S.e)) (hcc : S.c ≤ 300000) :
    Calls Try.prog 26 #[.pointer (some ⟨bx, 0, none⟩), .slice A n c, .int .i64 e] W fun r w' => r = .returned (.tuple #[]) ∧ Best3 w' b0 bx gp gl (upd S P e) ∧ K3 b0 bx bx bx W w' := by
  obtain rfl := hp.len
  have HP := hide hp
  have HB := hide hb
  obtain ⟨Ab, cb, htx, how, haw⟩ := hb.ob
  have k0 := htx.c0
  have k1 := htx.c1
  have k2 := htx.c2
  have f0 := htx.f 0
  have f1 := htx.f 1
  have f2 := htx.f 2
  have HT := hide htx
  have HO := hide how
  have hxl := htx.lt
  have hb0 : b0 ≤ W.heap.size := by omega
  have HCL := hide (Clone_any A P.length c W.heap.size P W hp (Nat.le_refl _) (by omega) (by omega))
  have HK0 := hide (K3.refl b0 bx bx bx W)
  clear hp hb htx how
  by_cases hc : S.c = 0 ∨ e < S.e
  · have HR := hide (upd_less (p := P) hc)
    by_cases hz : S.c = 0
    · have hne : ((S.c : Int) == 0) = true := by simp [hz]
      clear hc he
      go_enter Try.func26, Try.ntmps26
      go_wp2_with fail
      refine HCL.out.mono ?_
      rintro r w1 ⟨g, cg, rfl, hg1, hg2, hcg1, hcg2, hown, hb1⟩
      have HT1 := hide (HT.out.next hb1)
      have m0 := HT1.out.c0
      have m1 := HT1.out.c1
      have m2 := HT1.out.c2
      have n0 := HT1.out.f 0
      have n1 := HT1.out.f 1
      have n2 := HT1.out.f 2
      have HT2 := hide (HT1.out.set0 (.int .i64 e))
      have n3 := HT2.out.f 1
      have m3 := HT2.out.c1
      have HT3 := hide (HT2.out.set1 (.slice (some ⟨g, 0, none⟩) P.length cg))
      have n4 := HT3.out.f 2
      have m4 := HT3.out.c2
      have HT4 := hide (HT3.out.set2 (.int .i64 0))
      have m5 := HT4.out.c2
      have n5 := HT4.out.f 2
      have HK1 := hide ((((HK0.out.call hb0 hb1).put (a := ⟨bx, 0, none⟩) (.inl rfl) hx (.int .i64 e)).put (a := ⟨bx, 1, none⟩) (.inl rfl) hx (.slice (some ⟨g, 0, none⟩) P.length cg)).put (a := ⟨bx, 2, none⟩) (.inl rfl) hx (.int .i64 0))
      have HOW := hide hown
      have HK11 := hide (((((K3.refl b0 bx bx bx w1).put (a := ⟨bx, 0, none⟩) (.inl rfl) hx (.int .i64 e)).put (a := ⟨bx, 1, none⟩) (.inl rfl) hx (.slice (some ⟨g, 0, none⟩) P.length cg)).put (a := ⟨bx, 2, none⟩) (.inl rfl) hx (.int .i64 0)).put (a := ⟨bx, 2, none⟩) (.inl rfl) hx (.int .i64 1))
      have hga : bx < g ∧ gp < g ∧ gl < g := ⟨by omega, by omega, by omega⟩
      clear hown hb1 k0 k1 k2 f0 f1 f2
      go_wp2_with fail
      go_end0
      refine ⟨rfl, ?_, HK1.out.put (a := ⟨bx, 2, none⟩) (.inl rfl) hx (.int .i64 1)⟩
      rw [HR.out]
      exact ⟨some ⟨g, 0, none⟩, cg, HT4.out.set2 _, (HOW.out.less hb0).kept (Away.one (away_new hga)) HK11.out, away_new hga⟩
    · have hne : ((S.c : Int) == 0) = false := by simp [hz]
      have hlt : e < S.e := by omega
      clear hc he
      go_enter Try.func26, Try.ntmps26
      go_wp2_with fail
      refine HCL.out.mono ?_
      rintro r w1 ⟨g, cg, rfl, hg1, hg2, hcg1, hcg2, hown, hb1⟩
      have HT1 := hide (HT.out.next hb1)
      have m0 := HT1.out.c0
      have m1 := HT1.out.c1
      have m2 := HT1.out.c2
      have n0 := HT1.out.f 0
      have n1 := HT1.out.f 1
      have n2 := HT1.out.f 2
      have HT2 := hide (HT1.out.set0 (.int .i64 e))
      have n3 := HT2.out.f 1
      have m3 := HT2.out.c1
      have HT3 := hide (HT2.out.set1 (.slice (some ⟨g, 0, none⟩) P.length cg))
      have n4 := HT3.out.f 2
      have m4 := HT3.out.c2
      have HT4 := hide (HT3.out.set2 (.int .i64 0))
      have m5 := HT4.out.c2
      have n5 := HT4.out.f 2
      have HK1 := hide ((((HK0.out.call hb0 hb1).put (a := ⟨bx, 0, none⟩) (.inl rfl) hx (.int .i64 e)).put (a := ⟨bx, 1, none⟩) (.inl rfl) hx (.slice (some ⟨g, 0, none⟩) P.length cg)).put (a := ⟨bx, 2, none⟩) (.inl rfl) hx (.int .i64 0))
      have HOW := hide hown
      have HK11 := hide (((((K3.refl b0 bx bx bx w1).put (a := ⟨bx, 0, none⟩) (.inl rfl) hx (.int .i64 e)).put (a := ⟨bx, 1, none⟩) (.inl rfl) hx (.slice (some ⟨g, 0, none⟩) P.length cg)).put (a := ⟨bx, 2, none⟩) (.inl rfl) hx (.int .i64 0)).put (a := ⟨bx, 2, none⟩) (.inl rfl) hx (.int .i64 1))
      have hga : bx < g ∧ gp < g ∧ gl < g := ⟨by omega, by omega, by omega⟩
      clear hown hb1 k0 k1 k2 f0 f1 f2
      go_wp2_with fail
      go_end0
      refine ⟨rfl, ?_, HK1.out.put (a := ⟨bx, 2, none⟩) (.inl rfl) hx (.int .i64 1)⟩
      rw [HR.out]
      exact ⟨some ⟨g, 0, none⟩, cg, HT4.out.set2 _, (HOW.out.less hb0).kept (Away.one (away_new hga)) HK11.out, away_new hga⟩
  · have HR := hide (upd_same (p := P) (e := e) (S := S) (by omega) (by omega))
    have hne : ((S.c : Int) == 0) = false := by simp; omega
    have hnl : ¬ e < S.e := by omega
    go_enter Try.func26, Try.ntmps26
    go_wp2_with fail
    go_end0
    have HK := HK0.out.put (a := ⟨bx, 2, none⟩) (.inl rfl) hx (.int .i64 ((S.c : Int) + 1))
    refine ⟨rfl, ?_, HK⟩
    rw [HR.out]
    exact ⟨Ab, cb, HT.out.set2 _, HO.out.kept (Away.one haw) HK, haw⟩
end Go.Proofs.Ytfikkgnpednjfaa
