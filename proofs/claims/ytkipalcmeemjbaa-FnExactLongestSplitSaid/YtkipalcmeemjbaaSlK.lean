
/-
  LENGTHS OF GAMES, the program's way: the closure of chosenLength, toldOf.
-/
import Derived.Test.YtkipalcmeemjbaaSlJ
import Derived.Test.YtkipalcmeemjbaaSlX
import Derived.Test.YtkipalcmeemjbaaCyB
import Derived.Test.YtkipalcmeemjbaaRws
namespace Go.Proofs.Ytkipalcmeemjbaa
open Go.RowKit Go.Deep
set_option linter.unusedVariables false

/-- slices.Max, or slices.Min, as a value. -/
def fnV (L : Bool) : Value := if L then .func (.func 15) #[] #[] else .func (.func 16) #[] #[]
def addB (ps : List Bp) : List Int := ps.map fun d => 1 + d.x0 + d.x1
theorem addB_get (ps : List Bp) (k : Nat) (h : k < ps.length) : (addB ps).getD k 0 = 1 + ps[k].x0 + ps[k].x1 := by simp [addB, List.getD, h]
theorem addB_length (ps : List Bp) : (addB ps).length = ps.length := by simp [addB]
theorem addB_bps (l : List (Int × Int)) : addB (bps l) = addL l := by simp [addB, bps, addL, bpOf]
theorem bps_small {t : List Int} {r : Int} {n p : Nat} (ht : ∀ k, 0 ≤ t.getD k 0 ∧ t.getD k 0 ≤ 60) : ∀ d ∈ bps (told t 0 r n p), (0 ≤ d.x0 ∧ d.x0 ≤ 60) ∧ 0 ≤ d.x1 ∧ d.x1 ≤ 60 := by
  intro d hd
  unfold bps told at hd
  rw [List.map_map, List.mem_map] at hd
  obtain ⟨q, _, rfl⟩ := hd
  exact ⟨ht (n - q), ht q⟩
theorem lens_other (L : Bool) (r : Int) (N j : Nat) (hN : 1 ≤ N) (h : j ≠ N) : (lens L r N).getD j 0 = (lens L r (N - 1)).getD j 0 := by
  rcases Nat.lt_or_ge j N with h1 | h1
  · exact lens_get (by omega) (by omega)
  · rw [List.getD_eq_getElem?_getD, List.getD_eq_getElem?_getD, List.getElem?_eq_none (by rw [lens_length]; omega), List.getElem?_eq_none (by rw [lens_length]; omega)]
theorem lens_at (L : Bool) (r : Int) (N : Nat) (hN : 1 ≤ N) : (lens L r N).getD N 0 = max 0 (pickL L (addL (told (lens L r (N - 1)) 0 r N (N + 1)))) := by
  obtain ⟨n, rfl⟩ : ∃ n, N = n + 1 := ⟨N - 1, by omega⟩
  exact lens_last L r n

theorem lenFn_true (bx : Nat) (n : Int) (A : Option Addr) (len c B : Nat) (ps : List Bp) (w : World) (hr : Bps w B A len ps) (hB : B ≤ w.heap.size) (hn : len ≤ 1000) (h1 : ∀ x ∈ addB ps, 1 ≤ x) (hs : ∀ d ∈ ps, (0 ≤ d.x0 ∧ d.x0 ≤ 60) ∧ 0 ≤ d.x1 ∧ d.x1 ≤ 60) (hX : One w bx 29 (fnV true)) :
    Calls Try.prog 30 #[.int .i64 n, .slice A len c, .pointer (some ⟨bx, 0, none⟩)] w fun e w' => e = .returned (.int .i64 (max 0 (pickL true (addB ps)))) ∧ Below w.heap.size w w' := by
  obtain rfl := hr.len
  by_cases h0 : ps.length = 0
  · obtain rfl : ps = [] := List.eq_nil_of_length_eq_zero h0
    have h0i : (([] : List Bp).length : Int) = 0 := rfl
    have HE := hide (show max 0 (pickL true (addB [])) = 0 from rfl)
    rw [HE.out]
    clear HE h1 hs hX hr
    generalize ([] : List Bp).length = z at *
    subst h0
    go_enter Try.func30, Try.ntmps30
    go_wp2_with fail
    go_ret
    exact ⟨rfl, Below.refl _ _⟩
  · have hmk := run_make_row' (P := Try.prog) 26 3 (.int .i64 0) 8 Try.underlying26 infoInt rfl .i64 .i64 ps.length (by omega) (by omega)
    have hne : addB ps ≠ [] := fun h => h0 (by have := congrArg List.length h; rw [addB_length] at this; simpa using this)
    have HE := hide (show max 0 (pickL true (addB ps)) = mx (addB ps) from by
      have h2 := h1 _ (pick_mem (L := true) hne)
      have h3 : mx (addB ps) = pickL true (addB ps) := pick_max hne
      omega)
    have HM := hide (fun A' B' W (h : Ints W B' A' ps.length (addB ps)) => Max_any A' ps.length ps.length B' (addB ps) W h (by omega) (by omega))
    rw [HE.out]
    have HSm := hide hs
    have HOne := hide hX
    have hbx := hX.lt
    clear HE h1 hs hX hne
    generalize mx (addB ps) = v at *
    have h0i : ¬ ((ps.length : Int) = 0) := by omega
    go_enter Try.func30, Try.ntmps30
    go_wp2_with fail
    go_loopw [17] (fun i wr => ∃ k : Nat, k ≤ ps.length ∧ i = .int .i64 k ∧ wr.rowIs w.heap.size 3 ps.length (fun j => if j < k then .int .i64 ((addB ps).getD j 0) else .int .i64 0) ∧ Below w.heap.size w wr ∧ w.heap.size < wr.heap.size)
      (fun i _ => ps.length - (intOf i).toNat)
    case atStart => exact ⟨0, Nat.zero_le _, rfl, (World.rowIs_made w _ _ _).congr (fun i _ => by simp), (Below.refl _ _).alloc (Nat.le_refl _) _, by simp⟩
    case round =>
      obtain ⟨k, hk, rfl, hrow, hb, hs⟩ := hrel
      by_cases hlt : k < ps.length
      · obtain ⟨b, off, rfl, hab, hc0, hc1⟩ := (hr.below hb hB).at_ hlt hlt
        have HG := hide (addB_get ps k hlt)
        have hb0 := hb.size
        have hsm := HSm.out ps[k] (List.getElem_mem hlt)
        generalize hd : ps[k] = d at *
        clear hd
        have hrow0 := hrow.of_block (w' := wr.alloc (.cells #[.int .i64 d.x0, .int .i64 d.x1] 39)) (Below.heap_alloc _ _ _ hs)
        have hold := hrow0.cell hlt
        have hfz := hrow0.frozen k
        have Hrow := hide hrow
        clear hrow hrow0
        have hki : (k : Int) < (ps.length : Int) := by omega
        have hq1 := hsm.1
        have hq2 := hsm.2
        clear hsm
        go_wp2_with fail
        go_roundw
        case rel =>
          refine ⟨k + 1, by omega, by go_num, ((Hrow.out.set k _).of_block (Below.heap_alloc _ _ _ (by simpa using hs))).congr (fun i hi => ?_), (hb.setCell (Nat.le_refl _) _).alloc (by simp; omega) _, by simp; omega⟩
          by_cases e : i = k
          · subst e; rw [if_pos rfl, if_pos (by omega), HG.out]
          · rw [if_neg e]
            by_cases h2 : i < k
            · rw [if_pos h2, if_pos (by omega)]
            · rw [if_neg h2, if_neg (by omega)]
        case measure => simp [intOf]; omega
      · have hR : Row wr w.heap.size 3 (addB ps) := by
          unfold Row; rw [addB_length]; exact hrow.congr (fun i hi => by rw [if_pos (by omega)])
        have hI := hR.ints hs
        rw [addB_length] at hI
        have hcell := (HOne.out.below hb hbx).cell
        clear hR hrow
        unfold fnV at hcell
        simp only [if_true, if_false, Bool.false_eq_true] at hcell
        go_wp2_with fail
        refine (HM.out _ _ _ hI).mono ?_; rintro e w' ⟨rfl, rfl⟩
        go_wp2_with fail
        go_ret
        exact ⟨rfl, hb⟩

theorem lenFn_false (bx : Nat) (n : Int) (A : Option Addr) (len c B : Nat) (ps : List Bp) (w : World) (hr : Bps w B A len ps) (hB : B ≤ w.heap.size) (hn : len ≤ 1000) (h1 : ∀ x ∈ addB ps, 1 ≤ x) (hs : ∀ d ∈ ps, (0 ≤ d.x0 ∧ d.x0 ≤ 60) ∧ 0 ≤ d.x1 ∧ d.x1 ≤ 60) (hX : One w bx 29 (fnV false)) :
    Calls Try.prog 30 #[.int .i64 n, .slice A len c, .pointer (some ⟨bx, 0, none⟩)] w fun e w' => e = .returned (.int .i64 (max 0 (pickL false (addB ps)))) ∧ Below w.heap.size w w' := by
  obtain rfl := hr.len
  by_cases h0 : ps.length = 0
  · obtain rfl : ps = [] := List.eq_nil_of_length_eq_zero h0
    have h0i : (([] : List Bp).length : Int) = 0 := rfl
    have HE := hide (show max 0 (pickL false (addB [])) = 0 from rfl)
    rw [HE.out]
    clear HE h1 hs hX hr
    generalize ([] : List Bp).length = z at *
    subst h0
    go_enter Try.func30, Try.ntmps30
    go_wp2_with fail
    go_ret
    exact ⟨rfl, Below.refl _ _⟩
  · have hmk := run_make_row' (P := Try.prog) 26 3 (.int .i64 0) 8 Try.underlying26 infoInt rfl .i64 .i64 ps.length (by omega) (by omega)
    have hne : addB ps ≠ [] := fun h => h0 (by have := congrArg List.length h; rw [addB_length] at this; simpa using this)
    have HE := hide (show max 0 (pickL false (addB ps)) = mn (addB ps) from by
      have h2 := h1 _ (pick_mem (L := false) hne)
      have h3 : mn (addB ps) = pickL false (addB ps) := pick_min hne
      omega)
    have HM := hide (fun A' B' W (h : Ints W B' A' ps.length (addB ps)) => Min_any A' ps.length ps.length B' (addB ps) W h (by omega) (by omega))
    rw [HE.out]
    have HSm := hide hs
    have HOne := hide hX
    have hbx := hX.lt
    clear HE h1 hs hX hne
    generalize mn (addB ps) = v at *
    have h0i : ¬ ((ps.length : Int) = 0) := by omega
    go_enter Try.func30, Try.ntmps30
    go_wp2_with fail
    go_loopw [17] (fun i wr => ∃ k : Nat, k ≤ ps.length ∧ i = .int .i64 k ∧ wr.rowIs w.heap.size 3 ps.length (fun j => if j < k then .int .i64 ((addB ps).getD j 0) else .int .i64 0) ∧ Below w.heap.size w wr ∧ w.heap.size < wr.heap.size)
      (fun i _ => ps.length - (intOf i).toNat)
    case atStart => exact ⟨0, Nat.zero_le _, rfl, (World.rowIs_made w _ _ _).congr (fun i _ => by simp), (Below.refl _ _).alloc (Nat.le_refl _) _, by simp⟩
    case round =>
      obtain ⟨k, hk, rfl, hrow, hb, hs⟩ := hrel
      by_cases hlt : k < ps.length
      · obtain ⟨b, off, rfl, hab, hc0, hc1⟩ := (hr.below hb hB).at_ hlt hlt
        have HG := hide (addB_get ps k hlt)
        have hb0 := hb.size
        have hsm := HSm.out ps[k] (List.getElem_mem hlt)
        generalize hd : ps[k] = d at *
        clear hd
        have hrow0 := hrow.of_block (w' := wr.alloc (.cells #[.int .i64 d.x0, .int .i64 d.x1] 39)) (Below.heap_alloc _ _ _ hs)
        have hold := hrow0.cell hlt
        have hfz := hrow0.frozen k
        have Hrow := hide hrow
        clear hrow hrow0
        have hki : (k : Int) < (ps.length : Int) := by omega
        have hq1 := hsm.1
        have hq2 := hsm.2
        clear hsm
        go_wp2_with fail
        go_roundw
        case rel =>
          refine ⟨k + 1, by omega, by go_num, ((Hrow.out.set k _).of_block (Below.heap_alloc _ _ _ (by simpa using hs))).congr (fun i hi => ?_), (hb.setCell (Nat.le_refl _) _).alloc (by simp; omega) _, by simp; omega⟩
          by_cases e : i = k
          · subst e; rw [if_pos rfl, if_pos (by omega), HG.out]
          · rw [if_neg e]
            by_cases h2 : i < k
            · rw [if_pos h2, if_pos (by omega)]
            · rw [if_neg h2, if_neg (by omega)]
        case measure => simp [intOf]; omega
      · have hR : Row wr w.heap.size 3 (addB ps) := by
          unfold Row; rw [addB_length]; exact hrow.congr (fun i hi => by rw [if_pos (by omega)])
        have hI := hR.ints hs
        rw [addB_length] at hI
        have hcell := (HOne.out.below hb hbx).cell
        clear hR hrow
        unfold fnV at hcell
        simp only [if_true, if_false, Bool.false_eq_true] at hcell
        go_wp2_with fail
        refine (HM.out _ _ _ hI).mono ?_; rintro e w' ⟨rfl, rfl⟩
        go_wp2_with fail
        go_ret
        exact ⟨rfl, hb⟩

theorem lenFn_any (L : Bool) (bx : Nat) (n : Int) (A : Option Addr) (len c B : Nat) (ps : List Bp) (w : World) (hr : Bps w B A len ps) (hB : B ≤ w.heap.size) (hn : len ≤ 1000) (h1 : ∀ x ∈ addB ps, 1 ≤ x) (hs : ∀ d ∈ ps, (0 ≤ d.x0 ∧ d.x0 ≤ 60) ∧ 0 ≤ d.x1 ∧ d.x1 ≤ 60) (hX : One w bx 29 (fnV L)) :
    Calls Try.prog 30 #[.int .i64 n, .slice A len c, .pointer (some ⟨bx, 0, none⟩)] w fun e w' => e = .returned (.int .i64 (max 0 (pickL L (addB ps)))) ∧ Below w.heap.size w w' := by
  cases L
  · exact lenFn_false bx n A len c B ps w hr hB hn h1 hs hX
  · exact lenFn_true bx n A len c B ps w hr hB hn h1 hs hX

set_option maxHeartbeats 2000000 in
theorem toldL_any (L : Bool) (bx : Nat) (r : Int) (m : Nat) (hm1 : 1 ≤ m) (hm : m ≤ 60) (hrule : srule r = true) (w : World) (hX : One w bx 29 (fnV L)) :
    Calls Try.prog 29 #[.int .i64 r, .int .i64 (m : Int), .func (.func 30) #[] #[.pointer (some ⟨bx, 0, none⟩)]] w (Made (lens L r m) w) := by
  have HR := hide hrule
  have HOne := hide hX
  have hbx := hX.lt
  clear hrule hX
  have hmk := run_make_row' (P := Try.prog) 26 3 (.int .i64 0) 8 Try.underlying26 infoInt rfl .i64 .i64 (m + 1) (by omega) (by omega)
  rw [show ((m + 1 : Nat) : Int) = (m : Int) + 1 from by omega] at hmk
  go_enter Try.func29, Try.ntmps29
  go_wp2_with fail
  go_loopw [8] (fun i wr => ∃ N : Nat, 1 ≤ N ∧ N ≤ m + 1 ∧ i = .int .i64 (N : Int) ∧ Hid (wr.rowIs w.heap.size 3 (m + 1) (fun j => .int .i64 ((lens L r (N - 1)).getD j 0))) ∧ Below w.heap.size w wr ∧ w.heap.size < wr.heap.size)
    (fun i _ => m + 1 - (intOf i).toNat)
  case atStart => exact ⟨1, Nat.le_refl _, by omega, rfl, hide ((World.rowIs_made w _ _ _).congr (fun i _ => by
    show _ = Value.int .i64 ([(0 : Int)].getD i 0)
    cases i <;> simp)), (Below.refl _ _).alloc (Nat.le_refl _) _, by simp⟩
  case round =>
    obtain ⟨N, hN1, hN, rfl, HRow, hb, hs⟩ := hrel
    have hsz := hb.size
    by_cases hlt : N ≤ m
    · have HT := hide (fun k => lens_bd L r (N - 1) k)
      have HBd := hide (fun p => addL_bd (t := lens L r (N - 1)) (r := r) (n := N) (p := p) (fun k => ⟨(lens_bd L r (N - 1) k).1, fun h1 h2 => (lens_bd L r (N - 1) k).2.2 h1 (by omega)⟩))
      have HO := hide (fun j => lens_other L r N j hN1)
      have HAt := hide (lens_at L r N hN1)
      have HP := hide (fun W => partsOf_any r (N : Int) HR.out (by omega) (by omega) W)
      have hbd := mostP_bd (r := r) hN1
      have hle := leastN_is r
      rw [← hle.1] at HP
      have HPast := hide (fun p t h => told_past (α := Int) (t := t) (z := 0) (r := r) (n := N) (p := p) HR.out hN1 h)
      have HScan := hide (fun p : Nat => scan_parts (r := r) (h := (N : Int)) (p := (p : Int)) HR.out (by omega))
      rw [← hle.1] at HScan
      have hst := told_least (lens L r (N - 1)) 0 r N HR.out hN1
      have HSt := hide hst
      have hle2 := hle.2.1
      have hle3 := hle.2.2
      clear hle hst
      generalize lens L r (N - 1) = t at *
      generalize mostP r (N : Int) = b at *
      generalize leastN r = a at *
      have hcond : ((N : Int) ≤ (m : Int)) := by omega
      generalize wr = W1 at *
      go_wp2_with fail
      refine (HP.out _).mono ?_; rintro e w' ⟨rfl, rfl⟩
      go_wp2_with fail
      go_loopw [9, 12] (fun v q wq => ∃ p : Nat, a ≤ p ∧ p ≤ N + 1 ∧ q = .int .i64 (p : Int) ∧ Hid (OwnIBp wq W1.heap.size v (bps (told t 0 r N p)).length (numsBp (bps (told t 0 r N p)))) ∧ Below W1.heap.size W1 wq)
        (fun _ q _ => N + 1 - (intOf q).toNat)
      case atStart => exact ⟨a, Nat.le_refl _, by omega, rfl, by rw [HSt.out]; exact hide (OwnIBp.nil _ _), Below.refl _ _⟩
      case round =>
        obtain ⟨p, hp1, hp2, rfl, HQ, hbq⟩ := hrel
        have hsq := hbq.size
        by_cases hc : (p : Int) ≤ b
        · have hs1 : scan r (N : Int) (p : Int) = true := by rw [HScan.out]; exact decide_eq_true (by omega)
          have HN := hide (told_yes (t := t) hs1)
          have hlen := told_len t 0 r N p
          have hlen2 : (bps (told t 0 r N p)).length < 1000000 := by rw [bps_length]; omega
          have hrow1 := HRow.out.of_block (hbq.block _ hs)
          have hcell1 := hrow1.cell (i := N - p) (by omega)
          have hcell2 := hrow1.cell (i := p) (by omega)
          clear hs1 hrow1
          generalize t.getD p 0 = x at *
          generalize t.getD (N - p) 0 = y at *
          generalize bps (told t 0 r N p) = ms at *
          have hi1 : (p : Int) < (m : Int) + 1 := by omega
          have hi2 : (N : Int) - (p : Int) = ((N - p : Nat) : Int) := by omega
          have hi3 : ((N - p : Nat) : Int) < (m : Int) + 1 := by omega
          have hi4 : IntKind.i64.wrap ((N : Int) - (p : Int)) = ((N - p : Nat) : Int) := by rw [IntKind.wrap_i64]; omega
          have hi5 : IntKind.i64.wrap ((N - p : Nat) : Int) = ((N - p : Nat) : Int) := by rw [IntKind.wrap_i64]; omega
          have HSK : Hid (∀ W', Below W1.heap.size W1 W' → (Below W1.heap.size W1 W' ∧ W'.cell? ⟨w.heap.size, N - p, none⟩ = some (.int .i64 y) ∧ W'.cell? ⟨w.heap.size, p, none⟩ = some (.int .i64 x))) := hide fun W' h =>
            ⟨h, ((h.cell (p := ⟨w.heap.size, N - p, none⟩) hs).trans ((hbq.cell (p := ⟨w.heap.size, N - p, none⟩) hs).symm)).trans hcell1, ((h.cell (p := ⟨w.heap.size, p, none⟩) hs).trans ((hbq.cell (p := ⟨w.heap.size, p, none⟩) hs).symm)).trans hcell2⟩
          clear hcell1 hcell2
          go_wp2_with fail
          go_region_held3 (fun W => Below W1.heap.size W1 W ∧ W.cell? ⟨w.heap.size, N - p, none⟩ = some (.int .i64 y) ∧ W.cell? ⟨w.heap.size, p, none⟩ = some (.int .i64 x))
            (first | exact HSK.out _ hbq.drew | exact HSK.out _ (hbq.drew.trans hb') | exact HSK.out _ (Below.trans (And.left (by assumption)) hb') | exact HSK.out _ (Below.alloc (And.left (by assumption)) (Below.size (And.left (by assumption))) _) | go_keep)
            (first | (refine step_app_Bp rfl _ _ 37 rfl Try.underlying37 W1.heap.size _ ms rfl (wr := wr.drew) ?_ ⟨y, x⟩ _ rfl ?_ hlen2 ?_; (exact HQ.out.keep fun _ _ _ => rfl); (exact hbq.size); intro v' w' hown' hb'))
          have hbw : Below W1.heap.size W1 w' := And.left (by assumption : Below W1.heap.size W1 w' ∧ w'.cell? ⟨w.heap.size, N - p, none⟩ = some (.int .i64 y) ∧ _)
          clear hb' HSK
          go_wp2_with fail
          go_roundw
          case rel => exact ⟨p + 1, by omega, by omega, by go_num, by rw [HN.out]; exact hide hown', hbw⟩
          case measure => simp [intOf]; omega
        · have HE := hide (HPast.out p t (by omega) hp2)
          have hlen := told_len t 0 r N p
          have hl2 := bps_length (told t 0 r N p)
          rw [HE.out] at HQ hlen hl2
          clear HE
          obtain ⟨A', c', rfl⟩ := HQ.out.shape
          have hlen3 : (bps (told t 0 r N (N + 1))).length ≤ 1000 := by omega
          have HF := hide (fun W (h : Bps W W.heap.size A' (bps (told t 0 r N (N + 1))).length (bps (told t 0 r N (N + 1)))) (hX : One W bx 29 (fnV L)) => lenFn_any L bx (N : Int) A' (bps (told t 0 r N (N + 1))).length c' W.heap.size (bps (told t 0 r N (N + 1))) W h (Nat.le_refl _) hlen3 (by
            rw [addB_bps]; exact fun x hx => by have := HBd.out _ x hx; omega) (bps_small fun k => by have := HT.out k; omega) hX)
          rw [addB_bps] at HF
          have HI := hide HQ.out.list
          have hrow1 := HRow.out.of_block (hbq.block _ hs)
          have Hrow1 := hide hrow1
          clear hrow1 hl2 hlen
          generalize max 0 (pickL L (addL (told t 0 r N (N + 1)))) = val at *
          generalize bps (told t 0 r N (N + 1)) = ms at *
          go_wp2_with fail
          refine (HF.out _ HI.out (HOne.out.below (hb.trans (hbq.mono hsz)) hbx)).mono ?_; rintro e w4 ⟨rfl, hb4⟩
          have hz4 : w.heap.size < wr.heap.size := by omega
          have hrow4 := Hrow1.out.of_block (hb4.block _ hz4)
          have hold := hrow4.cell (i := N) (by omega)
          have hfz := hrow4.frozen N
          have Hrow4 := hide hrow4
          have hbw := hide (hb.trans ((hbq.mono hsz).trans (hb4.mono (Nat.le_trans hsz hsq))))
          have s4 := hb4.size
          clear hrow4
          have hni : (N : Int) < (m : Int) + 1 := by omega
          go_wp2_with fail
          go_roundw
          case rel =>
            refine ⟨N + 1, by omega, by omega, by go_num, hide ((Hrow4.out.set N _).congr fun i hi => ?_), hbw.out.setCell (Nat.le_refl _) _, by simp; omega⟩
            rw [Nat.add_sub_cancel]
            by_cases e : i = N
            · subst e; rw [if_pos rfl, HAt.out]
            · rw [if_neg e, HO.out i e]
          case measure => simp [intOf]; omega
    · obtain rfl : N = m + 1 := by omega
      have hcond : ¬ (((m + 1 : Nat) : Int) ≤ (m : Int)) := by omega
      have HL := hide (lens_length L r m)
      have hR : Row wr w.heap.size 3 (lens L r m) := by
        unfold Row; rw [HL.out]; have := HRow.out; rw [Nat.add_sub_cancel] at this; exact this
      have hO := hide (Own.of_row (base := w.heap.size) hR (Nat.le_refl _) (by rw [HL.out]; unfold maxLen; omega))
      clear hR
      go_wp2_with fail
      go_ret
      exact ⟨some ⟨w.heap.size, 0, none⟩, m + 1, by rw [HL.out]; rfl, by rw [HL.out]; exact Nat.le_refl _, by unfold maxLen; omega, by have := hO.out; rw [HL.out] at this ⊢; exact this, hb⟩

end Go.Proofs.Ytkipalcmeemjbaa
