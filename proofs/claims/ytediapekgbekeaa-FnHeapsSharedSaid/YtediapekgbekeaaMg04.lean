import Derived.Test.YtediapekgbekeaaMg00
import Derived.OneCell
import Derived.Test.YtediapekgbekeaaMg01

/-
  ROWS OF NUMBERS AT KNOWN BLOCKS: what they hold, stores into them and elsewhere. No program is named here.
-/
namespace Go.Proofs.Ytediapekgbekeaa
open Go.RowKit Go.Deep

section
variable {w w' : World} {g : Nat} {t : TypeId} {zs : List Int}
theorem Row.at_ (h : Row w g t zs) {k : Nat} (hk : k < zs.length) : w.cell? ⟨g, k, none⟩ = some (.int .i64 zs[k]) := by
  rw [World.rowIs.cell h hk]; simp [List.getD, hk]
theorem Row.atD (h : Row w g t zs) {k : Nat} (hk : k < zs.length) : w.cell? ⟨g, k, none⟩ = some (.int .i64 (zs.getD k 0)) := World.rowIs.cell h hk
theorem Row.free (h : Row w g t zs) (k : Nat) : w.frozen? ⟨g, k, none⟩ = false := World.rowIs.frozen h k
theorem Row.lt (h : Row w g t zs) : g < w.heap.size := World.rowIs.lt h
theorem Row.put (h : Row w g t zs) (k : Nat) (v : Int) : Row (w.setCell ⟨g, k, none⟩ (.int .i64 v)) g t (zs.set k v) := by
  unfold Row
  rw [List.length_set]
  refine (World.rowIs.set h k _).congr fun i hi => ?_
  by_cases e : i = k
  · subst e; simp [List.getD, hi]
  · simp [List.getD, e, List.getElem?_set_ne (Ne.symm e)]
theorem Row.past (h : Row w g t zs) {a : Addr} (ha : g ≠ a.block) (v : Value) : Row (w.setCell a v) g t zs := World.rowIs.setOther h ha v
theorem Row.new (h : Row w g t zs) (o : Obj) : Row (w.alloc o) g t zs := World.rowIs.alloc h o
theorem Row.below (h : Row w g t zs) {B : Nat} (hb : Below B w w') (hg : g < B) : Row w' g t zs := World.rowIs.of_block h (hb.block g hg)
theorem Row.same (h : Row w g t zs) (e : w'.heap[g]? = w.heap[g]?) : Row w' g t zs := World.rowIs.of_block h e
theorem Row.drewN (h : Row w g t zs) (n : Nat) : Row (w.drewN n) g t zs := h
theorem Row.zeros (w : World) (m : Nat) (t : TypeId) : Row (w.alloc (.cells (madeCells #[.int .i64 0] m) t)) w.heap.size t (List.replicate m 0) := by
  unfold Row
  rw [List.length_replicate]
  exact (World.rowIs_made w _ m _).congr (fun i hi => by simp [List.getD, hi])
theorem Row.is (h : Row w g t zs) {ys : List Int} (e : ys = zs) : Row w g t ys := e ▸ h
end
/-- A block of one cell: a captured variable. -/
def One (w : World) (b : Nat) (t : TypeId) (v : Value) : Prop := w.heap[b]? = some (.cells #[v] t (0, 0))
section
variable {w w' : World} {b : Nat} {t : TypeId} {v : Value}
theorem One.cell (h : One w b t v) : w.cell? ⟨b, 0, none⟩ = some v := cell_of_one h
theorem One.free (h : One w b t v) : w.frozen? ⟨b, 0, none⟩ = false := free_of_one h
theorem One.lt (h : One w b t v) : b < w.heap.size := lt_of_block h
theorem One.put (h : One w b t v) (u : Value) : One (w.setCell ⟨b, 0, none⟩ u) b t u := one_setCell h
theorem One.past (h : One w b t v) {a : Addr} (ha : b ≠ a.block) (u : Value) : One (w.setCell a u) b t v := (Below.heap_setCell _ _ _ _ ha).trans h
theorem One.new (h : One w b t v) (o : Obj) : One (w.alloc o) b t v := (Below.heap_alloc _ _ _ h.lt).trans h
theorem One.below (h : One w b t v) {B : Nat} (hb : Below B w w') (hg : b < B) : One w' b t v := (hb.block b hg).trans h
theorem One.same (h : One w b t v) (e : w'.heap[b]? = w.heap[b]?) : One w' b t v := e.trans h
theorem One.drewN (h : One w b t v) (n : Nat) : One (w.drewN n) b t v := h
theorem One.made (w : World) (t : TypeId) (v : Value) : One (w.alloc (.cells #[v] t)) w.heap.size t v := by
  unfold One
  show (w.heap.push _)[w.heap.size]? = _
  rw [Array.getElem?_push]; simp
end
/-- All blocks but one are as they were. -/
def Save (g : Nat) (w w' : World) : Prop := ∀ h, h < w.heap.size → h ≠ g → w'.heap[h]? = w.heap[h]?
theorem Save.refl (g : Nat) (w : World) : Save g w w := fun _ _ _ => rfl
theorem Save.put {g : Nat} {w w' : World} (h : Save g w w') (k : Nat) (v : Value) : Save g w (w'.setCell ⟨g, k, none⟩ v) := fun b hb hn => (Below.heap_setCell _ _ _ _ hn).trans (h b hb hn)
theorem Save.drewN {g : Nat} {w w' : World} (h : Save g w w') (n : Nat) : Save g w (w'.drewN n) := h
theorem cell_of_block {w w' : World} {p : Addr} (e : w'.heap[p.block]? = w.heap[p.block]?) : w'.cell? p = w.cell? p := by simp [World.cell?, e]
theorem Save.cell {g : Nat} {w w' : World} (h : Save g w w') {p : Addr} (hp : p.block < w.heap.size) (hn : p.block ≠ g) : w'.cell? p = w.cell? p := cell_of_block (h _ hp hn)
/-- 0, 1, .., m - 1. -/
def rng (m : Nat) : List Int := (List.range m).map fun (i : Nat) => (i : Int)
theorem rng_length (m : Nat) : (rng m).length = m := by simp [rng]
theorem rng_get {m k : Nat} (h : k < m) : (rng m)[k]'(by rw [rng_length]; exact h) = (k : Int) := by simp [rng]
theorem rng_getD {m k : Nat} (h : k < m) : (rng m).getD k 0 = (k : Int) := by simp [rng, List.getD, h]
theorem rng_succ (m : Nat) : rng (m + 1) = rng m ++ [(m : Int)] := by simp [rng, List.range_succ]
end Go.Proofs.Ytediapekgbekeaa

/-
  BITS OF NUMBERS: and, or over natural numbers; the number of ones below 2^24; powers of two. No program is named here.
-/
namespace Go.Proofs.Ytediapekgbekeaa
open Go.RowKit Go.Deep

theorem bits_and_i (x y : Nat) (hx : x < 9223372036854775808) (hy : y < 9223372036854775808) : bits BinOp.and IntKind.i64 (x : Int) (y : Int) = ((x &&& y : Nat) : Int) := by
  have h : x &&& y ≤ x := Nat.and_le_left
  have e : (BitVec.ofInt 64 (x : Int) &&& BitVec.ofInt 64 (y : Int)).toNat = x &&& y := by
    rw [BitVec.toNat_and, BitVec.ofInt_natCast, BitVec.ofInt_natCast, BitVec.toNat_ofNat, BitVec.toNat_ofNat, Nat.mod_eq_of_lt (by omega), Nat.mod_eq_of_lt (by omega)]
  show IntKind.i64.wrap ((BitVec.ofInt 64 (x : Int) &&& BitVec.ofInt 64 (y : Int)).toNat : Int) = _
  rw [e, IntKind.wrap_i64]; omega
theorem bits_and_u (x y : Nat) (hx : x < 9223372036854775808) (hy : y < 9223372036854775808) : bits BinOp.and IntKind.u64 (x : Int) (y : Int) = ((x &&& y : Nat) : Int) := by
  have h : x &&& y ≤ x := Nat.and_le_left
  have e : (BitVec.ofInt 64 (x : Int) &&& BitVec.ofInt 64 (y : Int)).toNat = x &&& y := by
    rw [BitVec.toNat_and, BitVec.ofInt_natCast, BitVec.ofInt_natCast, BitVec.toNat_ofNat, BitVec.toNat_ofNat, Nat.mod_eq_of_lt (by omega), Nat.mod_eq_of_lt (by omega)]
  show IntKind.u64.wrap ((BitVec.ofInt 64 (x : Int) &&& BitVec.ofInt 64 (y : Int)).toNat : Int) = _
  rw [e, IntKind.wrap_u64]; omega
theorem bits_or_i (x y : Nat) (hx : x < 4611686018427387904) (hy : y < 4611686018427387904) : bits BinOp.or IntKind.i64 (x : Int) (y : Int) = ((x ||| y : Nat) : Int) := by
  have h : x ||| y < 2 ^ 62 := Nat.or_lt_two_pow (by omega) (by omega)
  have e : (BitVec.ofInt 64 (x : Int) ||| BitVec.ofInt 64 (y : Int)).toNat = x ||| y := by
    rw [BitVec.toNat_or, BitVec.ofInt_natCast, BitVec.ofInt_natCast, BitVec.toNat_ofNat, BitVec.toNat_ofNat, Nat.mod_eq_of_lt (by omega), Nat.mod_eq_of_lt (by omega)]
  show IntKind.i64.wrap ((BitVec.ofInt 64 (x : Int) ||| BitVec.ofInt 64 (y : Int)).toNat : Int) = _
  rw [e, IntKind.wrap_i64]; omega

theorem and_byte (x y : Nat) : x &&& y = (x % 256 &&& y % 256) + 256 * (x / 256 &&& y / 256) := by
  have h1 : (x &&& y) % 256 = x % 256 &&& y % 256 := Nat.and_mod_two_pow (n := 8) (a := x) (b := y)
  have h2 : (x &&& y) / 256 = x / 256 &&& y / 256 := Nat.and_div_two_pow (n := 8) (a := x) (b := y)
  rw [← h1, ← h2]; omega

theorem and_24 (x m p : Nat) (hx : x < 16777216) (h0 : m % 256 = p) (h1 : m / 256 % 256 = p) (h2 : m / 65536 % 256 = p) :
    x &&& m = (x % 256 &&& p) + 256 * (x / 256 % 256 &&& p) + 65536 * (x / 65536 &&& p) := by
  rw [and_byte x m, and_byte (x / 256) (m / 256), and_byte (x / 256 / 256) (m / 256 / 256), Nat.div_div_eq_div_mul, Nat.div_div_eq_div_mul, Nat.div_div_eq_div_mul, Nat.div_div_eq_div_mul]
  rw [h0, h1, show m / (256 * 256) % 256 = p from h2, show x / (256 * 256) % 256 = x / 65536 from by omega, show x / (256 * 256 * 256) = 0 from by omega, Nat.zero_and]
  omega

/-- The steps of a byte. -/
def s1 (a : Nat) : Nat := (a / 2 &&& 85) + (a &&& 85)
def s2 (a : Nat) : Nat := (s1 a / 4 &&& 51) + (s1 a &&& 51)
def s3 (a : Nat) : Nat := s2 a / 16 + s2 a % 16
theorem b_s1 : ∀ a : Fin 256, s1 a.val ≤ 170 := by decide +kernel
theorem b_s2 : ∀ a : Fin 256, s2 a.val % 16 ≤ 4 ∧ s2 a.val / 16 ≤ 4 := by decide +kernel
theorem b_m1 : ∀ (q : Fin 128) (r : Fin 2), (q.val + 128 * r.val) &&& 85 = q.val &&& 85 := by decide +kernel
theorem b_m2 : ∀ (q : Fin 64) (r : Fin 4), (q.val + 64 * r.val) &&& 51 = q.val &&& 51 := by decide +kernel
theorem m1 (a b : Nat) (ha : a < 256) : (a / 2 + 128 * (b % 2)) &&& 85 = a / 2 &&& 85 := b_m1 ⟨a / 2, by omega⟩ ⟨b % 2, by omega⟩
theorem m2 (a b : Nat) (ha : a < 256) : (a / 4 + 64 * (b % 4)) &&& 51 = a / 4 &&& 51 := b_m2 ⟨a / 4, by omega⟩ ⟨b % 4, by omega⟩

/-- The number of ones, below 2^24. -/
def ones (x : Nat) : Nat := s3 (x % 256) + s3 (x / 256 % 256) + s3 (x / 65536)

def w1 (x : Nat) : Nat := (x / 2 &&& 6148914691236517205) + (x &&& 6148914691236517205)
def w2 (x : Nat) : Nat := (x / 4 &&& 3689348814741910323) + (x &&& 3689348814741910323)
def w3 (x : Nat) : Nat := (x / 16 + x) &&& 1085102592571150095

theorem w1_eq (x : Nat) (hx : x < 16777216) : w1 x = s1 (x % 256) + 256 * s1 (x / 256 % 256) + 65536 * s1 (x / 65536) := by
  unfold w1 s1
  rw [and_24 (x / 2) _ 85 (by omega) (by decide) (by decide) (by decide), and_24 x _ 85 hx (by decide) (by decide) (by decide)]
  rw [show x / 2 % 256 = x % 256 / 2 + 128 * (x / 256 % 256 % 2) from by omega, m1 _ _ (by omega)]
  rw [show x / 2 / 256 % 256 = x / 256 % 256 / 2 + 128 * (x / 65536 % 2) from by omega, m1 _ _ (by omega)]
  rw [show x / 2 / 65536 = x / 65536 / 2 from by omega]
  omega
theorem w2_eq (a b c : Nat) (ha : a < 256) (hb : b < 256) (hc : c < 256) :
    w2 (a + 256 * b + 65536 * c) = ((a / 4 &&& 51) + (a &&& 51)) + 256 * ((b / 4 &&& 51) + (b &&& 51)) + 65536 * ((c / 4 &&& 51) + (c &&& 51)) := by
  unfold w2
  rw [and_24 ((a + 256 * b + 65536 * c) / 4) _ 51 (by omega) (by decide) (by decide) (by decide), and_24 (a + 256 * b + 65536 * c) _ 51 (by omega) (by decide) (by decide) (by decide)]
  rw [show (a + 256 * b + 65536 * c) / 4 % 256 = a / 4 + 64 * (b % 4) from by omega, m2 _ _ ha]
  rw [show (a + 256 * b + 65536 * c) / 4 / 256 % 256 = b / 4 + 64 * (c % 4) from by omega, m2 _ _ hb]
  rw [show (a + 256 * b + 65536 * c) / 4 / 65536 = c / 4 from by omega, show (a + 256 * b + 65536 * c) % 256 = a from by omega,
    show (a + 256 * b + 65536 * c) / 256 % 256 = b from by omega, show (a + 256 * b + 65536 * c) / 65536 = c from by omega]
  omega
theorem and15 (x : Nat) : x &&& 15 = x % 16 := Nat.and_two_pow_sub_one_eq_mod x 4
theorem w3_eq (a b c : Nat) (ha : a % 16 ≤ 4 ∧ a / 16 ≤ 4) (hb : b % 16 ≤ 4 ∧ b / 16 ≤ 4) (hc : c % 16 ≤ 4 ∧ c / 16 ≤ 4) :
    w3 (a + 256 * b + 65536 * c) = (a / 16 + a % 16) + 256 * (b / 16 + b % 16) + 65536 * (c / 16 + c % 16) := by
  unfold w3
  rw [show (a + 256 * b + 65536 * c) / 16 + (a + 256 * b + 65536 * c) = (a / 16 + a + 16 * (b % 16)) + 256 * (b / 16 + b + 16 * (c % 16)) + 65536 * (c / 16 + c) from by omega]
  have hp : a / 16 + a + 16 * (b % 16) < 256 := by omega
  have hq : b / 16 + b + 16 * (c % 16) < 256 := by omega
  have hr : c / 16 + c < 256 := by omega
  have ep : (a / 16 + a + 16 * (b % 16)) % 16 = a / 16 + a % 16 := by omega
  have eq : (b / 16 + b + 16 * (c % 16)) % 16 = b / 16 + b % 16 := by omega
  have er : (c / 16 + c) % 16 = c / 16 + c % 16 := by omega
  generalize a / 16 + a + 16 * (b % 16) = p at *
  generalize b / 16 + b + 16 * (c % 16) = q at *
  generalize c / 16 + c = r at *
  rw [and_24 _ _ 15 (by omega) (by decide) (by decide) (by decide), and15, and15, and15, ← ep, ← eq, ← er]
  rw [show (p + 256 * q + 65536 * r) % 256 = p from by omega, show (p + 256 * q + 65536 * r) / 256 % 256 = q from by omega, show (p + 256 * q + 65536 * r) / 65536 = r from by omega]
theorem w123 (x : Nat) (hx : x < 16777216) : w3 (w2 (w1 x)) = s3 (x % 256) + 256 * s3 (x / 256 % 256) + 65536 * s3 (x / 65536) := by
  have t1 := b_s1 ⟨x % 256, by omega⟩
  have t2 := b_s1 ⟨x / 256 % 256, by omega⟩
  have t3 := b_s1 ⟨x / 65536, by omega⟩
  rw [w1_eq x hx, w2_eq _ _ _ (by simp at t1; omega) (by simp at t2; omega) (by simp at t3; omega)]
  exact w3_eq _ _ _ (b_s2 ⟨x % 256, by omega⟩) (b_s2 ⟨x / 256 % 256, by omega⟩) (b_s2 ⟨x / 65536, by omega⟩)
theorem b_s3 : ∀ a : Fin 256, s3 a.val ≤ 8 := by decide +kernel
def w4 (x : Nat) : Nat := x + x / 256
def w5 (x : Nat) : Nat := x + x / 65536
def w6 (x : Nat) : Nat := x + x / 4294967296
theorem w_ones (x : Nat) (hx : x < 16777216) : w6 (w5 (w4 (w3 (w2 (w1 x))))) % 128 = ones x := by
  have t1 := b_s3 ⟨x % 256, by omega⟩
  have t2 := b_s3 ⟨x / 256 % 256, by omega⟩
  have t3 := b_s3 ⟨x / 65536, by omega⟩
  simp only at t1 t2 t3
  rw [w123 x hx]
  unfold ones
  generalize s3 (x % 256) = a at *
  generalize s3 (x / 256 % 256) = b at *
  generalize s3 (x / 65536) = c at *
  have e4 : w4 (a + 256 * b + 65536 * c) = (a + b) + 256 * (b + c) + 65536 * c := by unfold w4; omega
  have e5 : w5 ((a + b) + 256 * (b + c) + 65536 * c) = (a + b + c) + 256 * (b + c) + 65536 * c := by unfold w5; omega
  have e6 : w6 ((a + b + c) + 256 * (b + c) + 65536 * c) = (a + b + c) + 256 * (b + c) + 65536 * c := by unfold w6; omega
  rw [e4, e5, e6]; omega

/-- A power of two, up to 2^20. -/
def pw2 (u : Nat) : Bool := (List.range 21).any fun k => u == 2 ^ k
theorem pw2_of {u : Nat} (h : pw2 u = true) : ∃ k, k ≤ 20 ∧ u = 2 ^ k := by
  unfold pw2 at h
  obtain ⟨k, hk, e⟩ := List.any_eq_true.1 h
  exact ⟨k, by have := List.mem_range.1 hk; omega, by simpa using e⟩
theorem pw2_mk (k : Nat) (h : k ≤ 20) : pw2 (2 ^ k) = true := by
  unfold pw2
  exact List.any_eq_true.2 ⟨k, List.mem_range.2 (by omega), by simp⟩
theorem pw2_le {u : Nat} (h : pw2 u = true) : 1 ≤ u ∧ u ≤ 1048576 := by
  obtain ⟨k, hk, rfl⟩ := pw2_of h
  exact ⟨Nat.one_le_two_pow, Nat.le_trans (Nat.pow_le_pow_right (by decide) hk) (by decide)⟩

theorem o_0 : ∀ a : Fin 256, s3 a.val = 0 → a.val = 0 := by decide +kernel
theorem o_1 : ∀ a : Fin 256, s3 a.val = 1 → pw2 a.val = true ∧ pw2 (256 * a.val) = true ∧ (a.val ≤ 16 → pw2 (65536 * a.val) = true) := by decide +kernel
theorem o_2 : ∀ k : Fin 21, ones (2 ^ k.val) = 1 := by decide +kernel
theorem a_1 : ∀ a : Fin 256, a.val ≠ 0 → a.val &&& (a.val - 1) = 0 → pw2 a.val = true ∧ pw2 (256 * a.val) = true ∧ (a.val ≤ 16 → pw2 (65536 * a.val) = true) := by decide +kernel
theorem a_2 : ∀ k : Fin 21, (2 ^ k.val) &&& (2 ^ k.val - 1) = 0 := by decide +kernel

theorem ones_pw2 (u : Nat) (h1 : 1 ≤ u) (h2 : u ≤ 1048576) : (ones u == 1) = pw2 u := by
  cases hp : pw2 u
  · cases ho : ones u == 1
    · rfl
    · exfalso
      have ho' : ones u = 1 := by simpa using ho
      unfold ones at ho'
      have z0 := o_0 ⟨u % 256, by omega⟩
      have z1 := o_0 ⟨u / 256 % 256, by omega⟩
      have z2 := o_0 ⟨u / 65536, by omega⟩
      have y0 := o_1 ⟨u % 256, by omega⟩
      have y1 := o_1 ⟨u / 256 % 256, by omega⟩
      have y2 := o_1 ⟨u / 65536, by omega⟩
      simp only at z0 z1 z2 y0 y1 y2
      rcases (by omega : (s3 (u % 256) = 1 ∧ s3 (u / 256 % 256) = 0 ∧ s3 (u / 65536) = 0) ∨ (s3 (u % 256) = 0 ∧ s3 (u / 256 % 256) = 1 ∧ s3 (u / 65536) = 0) ∨ (s3 (u % 256) = 0 ∧ s3 (u / 256 % 256) = 0 ∧ s3 (u / 65536) = 1)) with ⟨e0, e1, e2⟩ | ⟨e0, e1, e2⟩ | ⟨e0, e1, e2⟩
      · have := (y0 e0).1; have := z1 e1; have := z2 e2
        rw [show u % 256 = u from by omega] at *
        simp_all
      · have q := (y1 e1).2.1; have := z0 e0; have := z2 e2
        rw [show 256 * (u / 256 % 256) = u from by omega, hp] at q
        exact absurd q (by decide)
      · have := z0 e0; have := z1 e1
        have q := (y2 e2).2.2 (by omega)
        rw [show 65536 * (u / 65536) = u from by omega, hp] at q
        exact absurd q (by decide)
  · obtain ⟨k, hk, rfl⟩ := pw2_of hp
    have := o_2 ⟨k, by omega⟩
    simp only at this
    rw [this]; rfl

theorem and_pw2 (u : Nat) (h1 : 1 ≤ u) (h2 : u ≤ 1048576) : ((u &&& (u - 1)) == 0) = pw2 u := by
  cases hp : pw2 u
  · cases ho : (u &&& (u - 1)) == 0
    · rfl
    · exfalso
      have ho' : u &&& (u - 1) = 0 := by simpa using ho
      rw [and_byte] at ho'
      by_cases h0 : u % 256 = 0
      · have e1 : (u - 1) / 256 = u / 256 - 1 := by omega
        have e2 : u / 256 &&& (u / 256 - 1) = 0 := by rw [e1] at ho'; omega
        rw [and_byte] at e2
        by_cases h3 : u / 256 % 256 = 0
        · have e3 : (u / 256 - 1) / 256 = u / 256 / 256 - 1 := by omega
          have e4 : u / 256 / 256 &&& (u / 256 / 256 - 1) = 0 := by rw [e3] at e2; omega
          have q := (a_1 ⟨u / 256 / 256, by omega⟩ (by simp only; omega) e4).2.2 (by simp only; omega)
          simp only at q
          rw [show 65536 * (u / 256 / 256) = u from by omega, hp] at q
          exact absurd q (by decide)
        · have e3 : (u / 256 - 1) / 256 = u / 256 / 256 := by omega
          rw [e3, Nat.and_self, show (u / 256 - 1) % 256 = u / 256 % 256 - 1 from by omega] at e2
          have q := (a_1 ⟨u / 256 % 256, by omega⟩ h3 (by simp only; omega)).2.1
          simp only at q
          rw [show 256 * (u / 256 % 256) = u from by omega, hp] at q
          exact absurd q (by decide)
      · have e3 : (u - 1) / 256 = u / 256 := by omega
        rw [e3, Nat.and_self, show (u - 1) % 256 = u % 256 - 1 from by omega] at ho'
        have q := (a_1 ⟨u % 256, by omega⟩ h0 (by simp only; omega)).1
        simp only at q
        rw [show u % 256 = u from by omega, hp] at q
        exact absurd q (by decide)
  · obtain ⟨k, hk, rfl⟩ := pw2_of hp
    have := a_2 ⟨k, by omega⟩
    simp only at this
    rw [this]; rfl
end Go.Proofs.Ytediapekgbekeaa
