
/-
  A DOUBLING READ BACK BY THE PROGRAM.
-/
import Derived.Test.YtlblajmblaknoaaDoorParDP
import Derived.Test.YtlblajmblaknoaaDoorParM
import Derived.Test.YtlblajmblaknoaaDoorDbM
namespace Go.Proofs.YtlblajmblaknoaaDoor
open Go.RowKit Go.Deep
set_option linter.unusedVariables false

def pdV (w : List UInt8) : Value := match pd w with
  | some d => .tuple #[.agg #[.int .i64 d.x0, .int .i64 d.x1], .bool true]
  | none => .tuple #[.agg #[.int .i64 0, .int .i64 0], .bool false]

set_option maxRecDepth 1000000 in
theorem parseDoubling_any (l : List UInt8) (hl : l.length ≤ 1048576) (w : World) :
    Calls Tryd.prog 13 #[.string (bs l)] w fun e w' => e = .returned (pdV l) ∧ Below w.heap.size w w' := by
  have hlen := str_len l
  by_cases h2 : l.length = 2
  · have hi0 := str_at l 0 (by omega)
    have hi1 := str_at l 1 (by omega)
    have hx0 : (l[0]'(by omega)).toNat < 256 := (l[0]'(by omega)).toNat_lt
    have hx1 : (l[1]'(by omega)).toNat < 256 := (l[1]'(by omega)).toNat_lt
    have hd : dbOf l = ⟨((l[0]'(by omega)).toNat : Int) - 48, ((l[1]'(by omega)).toNat : Int) - 48⟩ := by
      unfold dbOf; simp [List.getD, h2]
    rw [h2] at hlen
    rw [show (((0 : Nat) : Int)) = 0 from rfl] at hi0
    rw [show (((1 : Nat) : Int)) = 1 from rfl] at hi1
    generalize (l[0]'(by omega)).toNat = x0 at *
    generalize (l[1]'(by omega)).toNat = x1 at *
    have HT := hide (fun W => isDoublingT_any ((x0 : Int) - 48) ((x1 : Int) - 48) W)
    have hpd : pd l = if two 4 ((x0 : Int) - 48) ((x1 : Int) - 48) then some ⟨(x0 : Int) - 48, (x1 : Int) - 48⟩ else none := by
      unfold pd; rw [if_pos h2, hd]
    cases ht : two 4 ((x0 : Int) - 48) ((x1 : Int) - 48)
    · have HV := hide (show pdV l = .tuple #[.agg #[.int .i64 0, .int .i64 0], .bool false] from by unfold pdV; rw [hpd, ht]; rfl)
      rw [ht] at HT
      rw [HV.out]
      clear hpd hd ht
      generalize bs l = s at *
      go_enter Tryd.func13, Tryd.ntmps13
      go_wp2_with fail
      go_region
      all_goals
        go_wp2_with fail
        refine (HT.out _).mono ?_; rintro e w2 ⟨rfl, hb2⟩
        have hA : Below w.heap.size w (((w.alloc (.cells #[.int .i64 0, .int .i64 0] 31)).alloc (.cells #[.int .i64 ((x0 : Int) - 48), .int .i64 ((x1 : Int) - 48)] 31)).drew) := (((Below.refl _ _).alloc (Nat.le_refl _) _).alloc (by simp) _).drew
        have hz : (((w.alloc (.cells #[.int .i64 0, .int .i64 0] 31)).alloc (.cells #[.int .i64 ((x0 : Int) - 48), .int .i64 ((x1 : Int) - 48)] 31)).drew).heap.size = w.heap.size + 2 := by simp
        have c0 : (((w.alloc (.cells #[.int .i64 0, .int .i64 0] 31)).alloc (.cells #[.int .i64 ((x0 : Int) - 48), .int .i64 ((x1 : Int) - 48)] 31)).drew).cell? ⟨w.heap.size, 0, none⟩ = some (.int .i64 0) := by simp
        have c1 : (((w.alloc (.cells #[.int .i64 0, .int .i64 0] 31)).alloc (.cells #[.int .i64 ((x0 : Int) - 48), .int .i64 ((x1 : Int) - 48)] 31)).drew).cell? ⟨w.heap.size, 1, none⟩ = some (.int .i64 0) := by simp
        have g0 : (((w.alloc (.cells #[.int .i64 0, .int .i64 0] 31)).alloc (.cells #[.int .i64 ((x0 : Int) - 48), .int .i64 ((x1 : Int) - 48)] 31)).drew).frozen? ⟨w.heap.size, 0, none⟩ = false := by simp
        have g1 : (((w.alloc (.cells #[.int .i64 0, .int .i64 0] 31)).alloc (.cells #[.int .i64 ((x0 : Int) - 48), .int .i64 ((x1 : Int) - 48)] 31)).drew).frozen? ⟨w.heap.size, 1, none⟩ = false := by simp
        have d0 : (((w.alloc (.cells #[.int .i64 0, .int .i64 0] 31)).alloc (.cells #[.int .i64 ((x0 : Int) - 48), .int .i64 ((x1 : Int) - 48)] 31)).drew).cell? ⟨w.heap.size + 1, 0, none⟩ = some (.int .i64 ((x0 : Int) - 48)) := by simp
        have d1 : (((w.alloc (.cells #[.int .i64 0, .int .i64 0] 31)).alloc (.cells #[.int .i64 ((x0 : Int) - 48), .int .i64 ((x1 : Int) - 48)] 31)).drew).cell? ⟨w.heap.size + 1, 1, none⟩ = some (.int .i64 ((x1 : Int) - 48)) := by simp
        generalize ((w.alloc (.cells #[.int .i64 0, .int .i64 0] 31)).alloc (.cells #[.int .i64 ((x0 : Int) - 48), .int .i64 ((x1 : Int) - 48)] 31)).drew = W0 at *
        have e0 := (hb2.cell (show (⟨w.heap.size, 0, none⟩ : Addr).block < _ by simp [hz])).trans c0
        have e1 := (hb2.cell (show (⟨w.heap.size, 1, none⟩ : Addr).block < _ by simp [hz])).trans c1
        have k0 := (hb2.frozen (show (⟨w.heap.size, 0, none⟩ : Addr).block < _ by simp [hz])).trans g0
        have k1 := (hb2.frozen (show (⟨w.heap.size, 1, none⟩ : Addr).block < _ by simp [hz])).trans g1
        have e2 := (hb2.cell (show (⟨w.heap.size + 1, 0, none⟩ : Addr).block < _ by simp [hz])).trans d0
        have e3 := (hb2.cell (show (⟨w.heap.size + 1, 1, none⟩ : Addr).block < _ by simp [hz])).trans d1
        have hB := hide (hA.trans (hb2.mono (by omega)))
        clear hA hz c0 c1 g0 g1 d0 d1 hb2
        go_wp2_with fail
        exact bodyPost_ret (v := .tuple #[.agg #[.int .i64 0, .int .i64 0], .bool false]) (by simp [results, Tryd.results13, go_sem, e0, e1]) rfl ⟨rfl, (hB.out.setCell (Nat.le_refl _) _).setCell (Nat.le_refl _) _⟩
    · have HV := hide (show pdV l = .tuple #[.agg #[.int .i64 ((x0 : Int) - 48), .int .i64 ((x1 : Int) - 48)], .bool true] from by unfold pdV; rw [hpd, ht]; rfl)
      rw [ht] at HT
      rw [HV.out]
      clear hpd hd ht
      generalize bs l = s at *
      go_enter Tryd.func13, Tryd.ntmps13
      go_wp2_with fail
      go_region
      all_goals
        go_wp2_with fail
        refine (HT.out _).mono ?_; rintro e w2 ⟨rfl, hb2⟩
        have hA : Below w.heap.size w (((w.alloc (.cells #[.int .i64 0, .int .i64 0] 31)).alloc (.cells #[.int .i64 ((x0 : Int) - 48), .int .i64 ((x1 : Int) - 48)] 31)).drew) := (((Below.refl _ _).alloc (Nat.le_refl _) _).alloc (by simp) _).drew
        have hz : (((w.alloc (.cells #[.int .i64 0, .int .i64 0] 31)).alloc (.cells #[.int .i64 ((x0 : Int) - 48), .int .i64 ((x1 : Int) - 48)] 31)).drew).heap.size = w.heap.size + 2 := by simp
        have c0 : (((w.alloc (.cells #[.int .i64 0, .int .i64 0] 31)).alloc (.cells #[.int .i64 ((x0 : Int) - 48), .int .i64 ((x1 : Int) - 48)] 31)).drew).cell? ⟨w.heap.size, 0, none⟩ = some (.int .i64 0) := by simp
        have c1 : (((w.alloc (.cells #[.int .i64 0, .int .i64 0] 31)).alloc (.cells #[.int .i64 ((x0 : Int) - 48), .int .i64 ((x1 : Int) - 48)] 31)).drew).cell? ⟨w.heap.size, 1, none⟩ = some (.int .i64 0) := by simp
        have g0 : (((w.alloc (.cells #[.int .i64 0, .int .i64 0] 31)).alloc (.cells #[.int .i64 ((x0 : Int) - 48), .int .i64 ((x1 : Int) - 48)] 31)).drew).frozen? ⟨w.heap.size, 0, none⟩ = false := by simp
        have g1 : (((w.alloc (.cells #[.int .i64 0, .int .i64 0] 31)).alloc (.cells #[.int .i64 ((x0 : Int) - 48), .int .i64 ((x1 : Int) - 48)] 31)).drew).frozen? ⟨w.heap.size, 1, none⟩ = false := by simp
        have d0 : (((w.alloc (.cells #[.int .i64 0, .int .i64 0] 31)).alloc (.cells #[.int .i64 ((x0 : Int) - 48), .int .i64 ((x1 : Int) - 48)] 31)).drew).cell? ⟨w.heap.size + 1, 0, none⟩ = some (.int .i64 ((x0 : Int) - 48)) := by simp
        have d1 : (((w.alloc (.cells #[.int .i64 0, .int .i64 0] 31)).alloc (.cells #[.int .i64 ((x0 : Int) - 48), .int .i64 ((x1 : Int) - 48)] 31)).drew).cell? ⟨w.heap.size + 1, 1, none⟩ = some (.int .i64 ((x1 : Int) - 48)) := by simp
        generalize ((w.alloc (.cells #[.int .i64 0, .int .i64 0] 31)).alloc (.cells #[.int .i64 ((x0 : Int) - 48), .int .i64 ((x1 : Int) - 48)] 31)).drew = W0 at *
        have e0 := (hb2.cell (show (⟨w.heap.size, 0, none⟩ : Addr).block < _ by simp [hz])).trans c0
        have e1 := (hb2.cell (show (⟨w.heap.size, 1, none⟩ : Addr).block < _ by simp [hz])).trans c1
        have k0 := (hb2.frozen (show (⟨w.heap.size, 0, none⟩ : Addr).block < _ by simp [hz])).trans g0
        have k1 := (hb2.frozen (show (⟨w.heap.size, 1, none⟩ : Addr).block < _ by simp [hz])).trans g1
        have e2 := (hb2.cell (show (⟨w.heap.size + 1, 0, none⟩ : Addr).block < _ by simp [hz])).trans d0
        have e3 := (hb2.cell (show (⟨w.heap.size + 1, 1, none⟩ : Addr).block < _ by simp [hz])).trans d1
        have hB := hide (hA.trans (hb2.mono (by omega)))
        clear hA hz c0 c1 g0 g1 d0 d1 hb2
        go_wp2_with fail
        exact bodyPost_ret (v := .tuple #[.agg #[.int .i64 ((x0 : Int) - 48), .int .i64 ((x1 : Int) - 48)], .bool true]) (by simp [results, Tryd.results13, go_sem, e0, e1]) rfl ⟨rfl, (hB.out.setCell (Nat.le_refl _) _).setCell (Nat.le_refl _) _⟩
  · have hlen2 : ¬ ((l.length : Int) = 2) := by omega
    have HV := hide (show pdV l = .tuple #[.agg #[.int .i64 0, .int .i64 0], .bool false] from by unfold pdV pd; rw [if_neg h2])
    rw [HV.out]
    generalize bs l = s at *
    clear h2
    go_enter Tryd.func13, Tryd.ntmps13
    go_wp2_with fail
    exact bodyPost_ret (v := .tuple #[.agg #[.int .i64 0, .int .i64 0], .bool false]) (by simp [results, Tryd.results13, go_sem]) rfl ⟨rfl, (Below.refl _ _).alloc (Nat.le_refl _) _⟩
end Go.Proofs.YtlblajmblaknoaaDoor
