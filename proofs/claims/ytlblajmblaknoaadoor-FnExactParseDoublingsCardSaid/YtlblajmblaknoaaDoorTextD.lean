
/-
  THE TEXT OF DOUBLINGS, BOTH WAYS, and the walk of its law.
-/
import Derived.Test.YtlblajmblaknoaaDoorTextH
import Derived.Test.YtlblajmblaknoaaDoorTwo
import Derived.Test.YtlblajmblaknoaaDoorGood
import Derived.Test.YtlblajmblaknoaaDoorDbB
import Derived.Deep.RegionHeld3
import Derived.Deep.RegionWith
namespace Go.Proofs.YtlblajmblaknoaaDoor
open Go.RowKit Go.Deep
set_option linter.unusedVariables false

/-- The numbers of doublings, in pairs, as a text. -/
def dbW (d : Db) : List UInt8 := dtxt d.x0 ++ dtxt d.x1
def dbT (ds : List Db) : List UInt8 := Lib.join (ds.map dbW) [45]
/-- Each is a doubling of different heaps. -/
def dbGoodL (ds : List Db) : Bool := ds.all fun d => two 4 d.x0 d.x1
def dbsOk (ds : List Db) : Bool := decide (ds.length ≤ 100) && dbGoodL ds
def dbsT (ds : List Db) : ByteArray := if dbsOk ds then bs (dbT ds) else ⟨#[]⟩

theorem dbGoodL_get {ds : List Db} (h : dbGoodL ds = true) (k : Nat) (hk : k < ds.length) : two 4 ds[k].x0 ds[k].x1 = true := by
  unfold dbGoodL at h
  exact List.all_eq_true.1 h ds[k] (List.getElem_mem hk)
theorem dbGoodL_of {ds : List Db} (h : ∀ (k : Nat) (_ : k < ds.length), two 4 ds[k].x0 ds[k].x1 = true) : dbGoodL ds = true := by
  unfold dbGoodL
  rw [List.all_eq_true]
  intro d hd
  obtain ⟨k, hk, rfl⟩ := List.getElem_of_mem hd
  exact h k hk
theorem dbGoodL_not {ds : List Db} (k : Nat) (hk : k < ds.length) (h : two 4 ds[k].x0 ds[k].x1 = false) : dbGoodL ds = false := by
  cases hd : dbGoodL ds
  · rfl
  · rw [dbGoodL_get hd k hk] at h; cases h
theorem dbT_zero (ds : List Db) (h : 0 < ds.length) : dbT (ds.take 1) = dbW ds[0] := by
  unfold dbT
  rw [List.take_one, List.head?_eq_getElem?, List.getElem?_eq_getElem h]
  simp [Lib.join_one]
theorem dbT_succ (ds : List Db) (k : Nat) (h0 : 0 < k) (h : k < ds.length) : dbT (ds.take (k + 1)) = dbT (ds.take k) ++ [45] ++ dbW ds[k] := by
  unfold dbT
  rw [List.take_succ_eq_append_getElem h, List.map_append]
  exact join_snoc _ _ _ (by simp; exact ⟨by omega, by intro e; rw [e] at h; simp at h⟩)
theorem dtxt_digit {x : Int} (h0 : 0 ≤ x) (h : x < 4) : (dtxt x).length = 1 := by
  unfold dtxt
  rw [Lib.decDigits_one (by omega)]; rfl
theorem dbW_len {d : Db} (h : two 4 d.x0 d.x1 = true) : (dbW d).length = 2 := by
  have hb := two_bd h
  unfold dbW
  rw [List.length_append, dtxt_digit (by omega) (by omega), dtxt_digit (by omega) (by omega)]
theorem dbT_len (ds : List Db) (h : ∀ (k : Nat) (_ : k < ds.length), two 4 ds[k].x0 ds[k].x1 = true) : ∀ k, k ≤ ds.length → (dbT (ds.take k)).length ≤ 3 * k
  | 0, _ => by simp [dbT, Lib.join_nil]
  | k + 1, hk => by
    have hd := dbW_len (h k (by omega))
    rcases Nat.eq_zero_or_pos k with rfl | hp
    · rw [dbT_zero ds (by omega)]; omega
    · have := dbT_len ds h k (by omega)
      rw [dbT_succ ds k hp (by omega)]
      simp; omega
theorem dbT_all (ds : List Db) : dbT (ds.take ds.length) = dbT ds := by rw [List.take_length]

theorem isDoublingT_any (f t : Int) (w : World) :
    Calls Tryd.prog 18 #[.agg #[.int .i64 f, .int .i64 t]] w fun e w' => e = .returned (.bool (two 4 f t)) ∧ Below w.heap.size w w' := by
  have HT := hide (fun W => areTwoAmong_any 4 f t W)
  generalize two 4 f t = b at *
  go_enter Tryd.func18, Tryd.ntmps18
  go_wp2_with fail
  refine (HT.out _).mono ?_; rintro e w' ⟨rfl, rfl⟩
  go_wp2_with fail
  go_ret
  exact ⟨rfl, (Below.refl _ _).alloc (Nat.le_refl _) _⟩

set_option maxRecDepth 1000000 in
/-- The model's dbList. -/
theorem dbList_any (A : Option Addr) (n c B : Nat) (ds : List Db) (w : World) (hr : Dbs w B A n ds) (hB : B ≤ w.heap.size) (hn : n ≤ 1099511627776) :
    Calls Tryd.prog 10 #[.slice A n c] w fun e w' => e = .returned (.bool (dbsOk ds)) ∧ Below w.heap.size w w' := by
  obtain rfl := hr.len
  by_cases hl : ds.length ≤ 100
  · go_enter Tryd.func10, Tryd.ntmps10
    go_wp2_with fail
    go_loopw [10] (fun i wr => ∃ k : Nat, k ≤ ds.length ∧ i = .int .i64 k ∧ Hid (∀ (j : Nat) (_ : j < ds.length), j < k → two 4 ds[j].x0 ds[j].x1 = true) ∧ Below w.heap.size w wr)
      (fun i _ => ds.length - (intOf i).toNat)
    case atStart => exact ⟨0, Nat.zero_le _, rfl, hide (fun _ _ h => by omega), Below.refl _ _⟩
    case round =>
      obtain ⟨k, hk, rfl, HAll, hb⟩ := hrel
      by_cases hlt : k < ds.length
      · obtain ⟨b, off, rfl, hab, hc0, hc1⟩ := (hr.below hb hB).at_ hlt hlt
        have hb0 := hb.size
        have HA := hide (fun W => l1In_any ds[k].x0 0 3 W)
        have HB := hide (fun W => l1In_any ds[k].x1 0 3 W)
        by_cases h0 : 0 ≤ ds[k].x0 ∧ ds[k].x0 ≤ 3
        · rw [decide_eq_true h0] at HA
          by_cases h1 : 0 ≤ ds[k].x1 ∧ ds[k].x1 ≤ 3
          · rw [decide_eq_true h1] at HB
            by_cases h2 : ds[k].x0 = ds[k].x1
            · have h2' : (ds[k].x0 == ds[k].x1) = true := by simpa using h2
              have HN := hide (show dbsOk ds = false from by unfold dbsOk; rw [dbGoodL_not k hlt (two_no (fun h => h.2.2.2.2 h2))]; simp)
              clear h0 h1 h2
              generalize ds[k] = d at *
              go_wp2_with fail
              refine (HA.out _).mono ?_; rintro e w2 ⟨rfl, rfl⟩
              go_wp2_with fail
              refine (HB.out _).mono ?_; rintro e w2 ⟨rfl, rfl⟩
              go_wp2_with fail
              go_ret
              exact ⟨by rw [HN.out]; rfl, hb.alloc hb0 _⟩
            · have h2' : (ds[k].x0 == ds[k].x1) = false := by simpa using h2
              have HT := hide (two_yes (n := 4) (f := ds[k].x0) (t := ds[k].x1) (by omega))
              clear h0 h1 h2
              generalize hdk : ds[k] = d at *
              have HDK := hide hdk
              clear hdk
              go_wp2_with fail
              refine (HA.out _).mono ?_; rintro e w2 ⟨rfl, rfl⟩
              go_wp2_with fail
              refine (HB.out _).mono ?_; rintro e w2 ⟨rfl, rfl⟩
              go_wp2_with fail
              go_roundw
              case rel =>
                refine ⟨k + 1, by omega, by go_num, hide (fun j hj hjk => ?_), hb.alloc hb0 _⟩
                rcases Nat.lt_or_ge j k with h | h
                · exact HAll.out j hj h
                · have e : j = k := by omega
                  subst e; rw [HDK.out]; exact HT.out
              case measure => simp [intOf]; omega
          · rw [decide_eq_false h1] at HB
            have HN := hide (show dbsOk ds = false from by unfold dbsOk; rw [dbGoodL_not k hlt (two_no (fun h => h1 (by omega)))]; simp)
            clear h0 h1
            generalize ds[k] = d at *
            go_wp2_with fail
            refine (HA.out _).mono ?_; rintro e w2 ⟨rfl, rfl⟩
            go_wp2_with fail
            refine (HB.out _).mono ?_; rintro e w2 ⟨rfl, rfl⟩
            go_wp2_with fail
            go_ret
            exact ⟨by rw [HN.out]; rfl, hb.alloc hb0 _⟩
        · rw [decide_eq_false h0] at HA
          have HN := hide (show dbsOk ds = false from by unfold dbsOk; rw [dbGoodL_not k hlt (two_no (fun h => h0 (by omega)))]; simp)
          clear h0
          generalize ds[k] = d at *
          go_wp2_with fail
          refine (HA.out _).mono ?_; rintro e w2 ⟨rfl, rfl⟩
          go_wp2_with fail
          go_ret
          exact ⟨by rw [HN.out]; rfl, hb.alloc hb0 _⟩
      · have hgl : dbGoodL ds = true := dbGoodL_of (fun j hj => HAll.out j hj (by omega))
        have HN := hide (show dbsOk ds = true from by unfold dbsOk; rw [hgl, decide_eq_true hl]; rfl)
        clear hgl
        go_wp2_with fail
        go_ret
        exact ⟨by rw [HN.out]; rfl, hb⟩
  · have HN := hide (show dbsOk ds = false from by unfold dbsOk; rw [decide_eq_false hl]; rfl)
    rw [HN.out]
    go_enter Tryd.func10, Tryd.ntmps10
    go_wp2_with fail
    go_ret
    exact ⟨rfl, Below.refl _ _⟩

set_option maxRecDepth 1000000 in
set_option maxHeartbeats 4000000 in
/-- The model's dbText. -/
theorem dbText_any (A : Option Addr) (n c B : Nat) (ds : List Db) (w : World) (hr : Dbs w B A n ds) (hB : B ≤ w.heap.size) (hl : n ≤ 100) (hg : dbGoodL ds = true) :
    Calls Tryd.prog 11 #[.slice A n c] w fun e w' => e = .returned (.string (bs (dbT ds))) ∧ Below w.heap.size w w' := by
  obtain rfl := hr.len
  have HT := hide (fun k hk => dbGoodL_get hg k hk)
  have HL := hide (dbT_len ds (fun j hj => dbGoodL_get hg j hj))
  clear hg
  go_enter Tryd.func11, Tryd.ntmps11
  go_wp2_with fail
  go_loopw [3, 8] (fun t i wr => ∃ k : Nat, k ≤ ds.length ∧ i = .int .i64 k ∧ t = .string (bs (dbT (ds.take k))) ∧ Below w.heap.size w wr)
    (fun _ i _ => ds.length - (intOf i).toNat)
  case atStart => exact ⟨0, Nat.zero_le _, rfl, rfl, Below.refl _ _⟩
  case round =>
    obtain ⟨k, hk, rfl, rfl, hb⟩ := hrel
    have hb0 := hb.size
    by_cases hlt : k < ds.length
    · obtain ⟨b, off, rfl, hab, hc0, hc1⟩ := (hr.below hb hB).at_ hlt hlt
      have hbd := two_bd (HT.out k hlt)
      have hlk := HL.out k hk
      have hd0 := dtxt_digit hbd.1 hbd.2.1
      have hd1 := dtxt_digit hbd.2.2.1 hbd.2.2.2.1
      have HN0 := hide (fun W => l1Num_any 0 ds[k].x0.toNat W (by omega) (by omega))
      have HN1 := hide (fun W => l1Num_any 0 ds[k].x1.toNat W (by omega) (by omega))
      rw [show ((ds[k].x0.toNat : Nat) : Int) = ds[k].x0 from by omega] at HN0
      rw [show ((ds[k].x1.toNat : Nat) : Int) = ds[k].x1 from by omega] at HN1
      have hpair : ∀ W, (Op.stringOp .add (bs (Lib.decDigits ds[k].x0.toNat)) (bs (Lib.decDigits ds[k].x1.toNat))).run Tryd.prog W = .ok (.string (bs (dbW ds[k]))) W := fun W => by
        rw [run_string_add_sum W _ _ (by rw [bs_size, bs_size]; unfold dtxt at hd0 hd1; omega), bs_append]; rfl
      have HPair := hide hpair
      have hdw := dbW_len (HT.out k hlt)
      clear hpair hbd hd0 hd1
      by_cases h0 : k = 0
      · have hadd : ∀ W, (Op.stringOp .add (bs (dbT (ds.take k))) (bs (dbW ds[k]))).run Tryd.prog W = .ok (.string (bs (dbT (ds.take (k + 1))))) W := fun W => by
          rw [run_string_add_sum W _ _ (by rw [bs_size, bs_size]; omega), bs_append]
          subst h0
          rw [show (0 + 1) = 1 from rfl, dbT_zero ds hlt]
          rfl
        have HA := hide hadd
        have hk0 : (k : Int) ≤ 0 := by omega
        clear hadd h0
        clear hlk hdw
        generalize bs (Lib.decDigits ds[k].x0.toNat) = s0 at *
        generalize bs (Lib.decDigits ds[k].x1.toNat) = s1 at *
        generalize bs (dbW ds[k]) = sp at *
        generalize bs (dbT (ds.take k)) = sk at *
        generalize hs2 : bs (dbT (ds.take (k + 1))) = sn at *
        have HS2 := hide hs2
        clear hs2
        generalize ds[k] = d at *
        have hadd := HA.out
        have hpair := HPair.out
        go_wp2_with fail
        have hbo : Below w.heap.size w (wr.alloc (.cells #[.int .i64 d.x0, .int .i64 d.x1] 31)) := hb.alloc hb0 _
        have k0 : (wr.alloc (.cells #[.int .i64 d.x0, .int .i64 d.x1] 31)).cell? ⟨wr.heap.size, 0, none⟩ = some (.int .i64 d.x0) := by simp
        have k1 : (wr.alloc (.cells #[.int .i64 d.x0, .int .i64 d.x1] 31)).cell? ⟨wr.heap.size, 1, none⟩ = some (.int .i64 d.x1) := by simp
        have z0 : wr.heap.size < (wr.alloc (.cells #[.int .i64 d.x0, .int .i64 d.x1] 31)).heap.size := by simp
        generalize (wr.alloc (.cells #[.int .i64 d.x0, .int .i64 d.x1] 31)) = W0 at *
        generalize wr.heap.size = bx at *
        have HS : Hid (∀ W', Below W0.heap.size W0 W' → (Below W0.heap.size W0 W' ∧ W'.cell? ⟨bx, 0, none⟩ = some (.int .i64 d.x0) ∧ W'.cell? ⟨bx, 1, none⟩ = some (.int .i64 d.x1))) :=
          hide fun W' h => ⟨h, (h.cell (p := ⟨bx, 0, none⟩) z0).trans k0, (h.cell (p := ⟨bx, 1, none⟩) z0).trans k1⟩
        first | go_region_held3 (fun W => Below W0.heap.size W0 W ∧ W.cell? ⟨bx, 0, none⟩ = some (.int .i64 d.x0) ∧ W.cell? ⟨bx, 1, none⟩ = some (.int .i64 d.x1))
          (first | exact HS.out _ (Below.refl _ _).drew | exact HS.out _ (below_next (And.left (by assumption)) hbn0) | exact HS.out _ (below_next (And.left (by assumption)) hbn1) | go_keep)
          (first
          | (go_at_call 16; (with_reducible refine (HN0.out _).mono ?_); rintro e wn0 ⟨rfl, hbn0⟩)
          | (go_at_call 16; (with_reducible refine (HN1.out _).mono ?_); rintro e wn1 ⟨rfl, hbn1⟩)) | fail
        have hB1 : Below W0.heap.size W0 wn1 := below_next (w1 := wn0) (below_next (w1 := W0.drew) (Below.refl _ _).drew hbn0) hbn1
        clear hbn0
        go_wp2_with fail
        go_roundw
        case rel => exact ⟨k + 1, by omega, by go_num, by rw [HS2.out], hbo.trans (hB1.mono hbo.size)⟩
        case measure => simp [intOf]; omega
      · have hmid : ∀ W, (Op.stringOp .add (bs (dbT (ds.take k))) ⟨#[45]⟩).run Tryd.prog W = .ok (.string (bs (dbT (ds.take k) ++ [45]))) W := fun W => by
          rw [run_string_add_sum W _ _ (by rw [bs_size]; show _ + 1 ≤ _; omega), show (⟨#[45]⟩ : ByteArray) = bs [45] from rfl, bs_append]
        have hadd : ∀ W, (Op.stringOp .add (bs (dbT (ds.take k) ++ [45])) (bs (dbW ds[k]))).run Tryd.prog W = .ok (.string (bs (dbT (ds.take (k + 1))))) W := fun W => by
          rw [run_string_add_sum W _ _ (by rw [bs_size, bs_size]; simp; omega), bs_append, dbT_succ ds k (by omega) hlt]
        have HM := hide hmid
        have HA := hide hadd
        have hk0 : 0 < (k : Int) := by omega
        clear hadd hmid h0
        generalize bs (dbT (ds.take k) ++ [45]) = sm at *
        clear hlk hdw
        generalize bs (Lib.decDigits ds[k].x0.toNat) = s0 at *
        generalize bs (Lib.decDigits ds[k].x1.toNat) = s1 at *
        generalize bs (dbW ds[k]) = sp at *
        generalize bs (dbT (ds.take k)) = sk at *
        generalize hs2 : bs (dbT (ds.take (k + 1))) = sn at *
        have HS2 := hide hs2
        clear hs2
        generalize ds[k] = d at *
        have hadd := HA.out
        have hpair := HPair.out
        have hmid := HM.out
        go_wp2_with fail
        have hbo : Below w.heap.size w (wr.alloc (.cells #[.int .i64 d.x0, .int .i64 d.x1] 31)) := hb.alloc hb0 _
        have k0 : (wr.alloc (.cells #[.int .i64 d.x0, .int .i64 d.x1] 31)).cell? ⟨wr.heap.size, 0, none⟩ = some (.int .i64 d.x0) := by simp
        have k1 : (wr.alloc (.cells #[.int .i64 d.x0, .int .i64 d.x1] 31)).cell? ⟨wr.heap.size, 1, none⟩ = some (.int .i64 d.x1) := by simp
        have z0 : wr.heap.size < (wr.alloc (.cells #[.int .i64 d.x0, .int .i64 d.x1] 31)).heap.size := by simp
        generalize (wr.alloc (.cells #[.int .i64 d.x0, .int .i64 d.x1] 31)) = W0 at *
        generalize wr.heap.size = bx at *
        have HS : Hid (∀ W', Below W0.heap.size W0 W' → (Below W0.heap.size W0 W' ∧ W'.cell? ⟨bx, 0, none⟩ = some (.int .i64 d.x0) ∧ W'.cell? ⟨bx, 1, none⟩ = some (.int .i64 d.x1))) :=
          hide fun W' h => ⟨h, (h.cell (p := ⟨bx, 0, none⟩) z0).trans k0, (h.cell (p := ⟨bx, 1, none⟩) z0).trans k1⟩
        first | go_region_held3 (fun W => Below W0.heap.size W0 W ∧ W.cell? ⟨bx, 0, none⟩ = some (.int .i64 d.x0) ∧ W.cell? ⟨bx, 1, none⟩ = some (.int .i64 d.x1))
          (first | exact HS.out _ (Below.refl _ _).drew | exact HS.out _ (below_next (And.left (by assumption)) hbn0) | exact HS.out _ (below_next (And.left (by assumption)) hbn1) | go_keep)
          (first
          | (go_at_call 16; (with_reducible refine (HN0.out _).mono ?_); rintro e wn0 ⟨rfl, hbn0⟩)
          | (go_at_call 16; (with_reducible refine (HN1.out _).mono ?_); rintro e wn1 ⟨rfl, hbn1⟩)) | fail
        have hB1 : Below W0.heap.size W0 wn1 := below_next (w1 := wn0) (below_next (w1 := W0.drew) (Below.refl _ _).drew hbn0) hbn1
        clear hbn0
        go_wp2_with fail
        go_roundw
        case rel => exact ⟨k + 1, by omega, by go_num, by rw [HS2.out], hbo.trans (hB1.mono hbo.size)⟩
        case measure => simp [intOf]; omega
    · have e : k = ds.length := by omega
      have HE := hide (show bs (dbT (ds.take k)) = bs (dbT ds) from by rw [e, dbT_all])
      clear e
      go_wp2_with fail
      go_ret
      exact ⟨by rw [← HE.out]; rfl, hb⟩

theorem Dbs.next {w w' : World} {A : Option Addr} {n : Nat} {ms : List Db} (h : Dbs w w.heap.size A n ms) (hb : Below w.heap.size w w') : Dbs w' w'.heap.size A n ms := (h.below hb (Nat.le_refl _)).more hb.size

end Go.Proofs.YtlblajmblaknoaaDoor
