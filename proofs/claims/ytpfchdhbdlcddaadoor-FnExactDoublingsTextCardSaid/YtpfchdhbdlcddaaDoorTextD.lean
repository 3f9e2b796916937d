
/-
  THE TEXT OF DOUBLINGS, BOTH WAYS, and the walk of its law.
-/
import Derived.Test.YtpfchdhbdlcddaaDoorTextH
import Derived.Test.YtpfchdhbdlcddaaDoorTwo
import Derived.Test.YtpfchdhbdlcddaaDoorGood
import Derived.Test.YtpfchdhbdlcddaaDoorDbB
import Derived.Deep.RegionHeld3
import Derived.Deep.RegionWith
namespace Go.Proofs.YtpfchdhbdlcddaaDoor
open Go.RowKit Go.Deep
set_option linter.unusedVariables false

/-- The numbers of doublings, in pairs, as a text. -/
def dbW (d : Db) : List UInt8 := dtxt d.x0 ++ dtxt d.x1
def dbT (ds : List Db) : List UInt8 := Lib.join (ds.map dbW) [45]
/-- Each is a doubling of different heaps. -/
def dbGoodL (ds : List Db) : Bool := ds.all fun d => two 4 d.x0 d.x1
def dbsOk (ds : List Db) : Bool := decide (ds.length ≤ 100) && dbGoodL ds
def dbsT (ds : List Db) : ByteArray := if dbsOk ds then bs (dbT ds) else ⟨#[]⟩

theorem dbGoodL_get {ds : List Db} (h : dbGoodL ds = true) (k : Nat) (hk : k < ds.length) : two 4 ds[k].x0 ds[k].x1 = true := by
  unfold dbGoodL at h
  exact List.all_eq_true.1 h ds[k] (List.getElem_mem hk)
theorem dbGoodL_of {ds : List Db} (h : ∀ (k : Nat) (_ : k < ds.length), two 4 ds[k].x0 ds[k].x1 = true) : dbGoodL ds = true := by
  unfold dbGoodL
  rw [List.all_eq_true]
  intro d hd
  obtain ⟨k, hk, rfl⟩ := List.getElem_of_mem hd
  exact h k hk
theorem dbGoodL_not {ds : List Db} (k : Nat) (hk : k < ds.length) (h : two 4 ds[k].x0 ds[k].x1 = false) : dbGoodL ds = false := by
  cases hd : dbGoodL ds
  · rfl
  · rw [dbGoodL_get hd k hk] at h; cases h
theorem dbT_zero (ds : List Db) (h : 0 < ds.length) : dbT (ds.take 1) = dbW ds[0] := by
  unfold dbT
  rw [List.take_one, List.head?_eq_getElem?, List.getElem?_eq_getElem h]
  simp [Lib.join_one]
theorem dbT_succ (ds : List Db) (k : Nat) (h0 : 0 < k) (h : k < ds.length) : dbT (ds.take (k + 1)) = dbT (ds.take k) ++ [45] ++ dbW ds[k] := by
  unfold dbT
  rw [List.take_succ_eq_append_getElem h, List.map_append]
  exact join_snoc _ _ _ (by simp; exact ⟨by omega, by intro e; rw [e] at h; simp at h⟩)
theorem dtxt_digit {x : Int} (h0 : 0 ≤ x) (h : x < 4) : (dtxt x).length = 1 := by
  unfold dtxt
  rw [Lib.decDigits_one (by omega)]; rfl
theorem dbW_len {d : Db} (h : two 4 d.x0 d.x1 = true) : (dbW d).length = 2 := by
  have hb := two_bd h
  unfold dbW
  rw [List.length_append, dtxt_digit (by omega) (by omega), dtxt_digit (by omega) (by omega)]
theorem dbT_len (ds : List Db) (h : ∀ (k : Nat) (_ : k < ds.length), two 4 ds[k].x0 ds[k].x1 = true) : ∀ k, k ≤ ds.length → (dbT (ds.take k)).length ≤ 3 * k
  | 0, _ => by simp [dbT, Lib.join_nil]
  | k + 1, hk => by
    have hd := dbW_len (h k (by omega))
    rcases Nat.eq_zero_or_pos k with rfl | hp
    · rw [dbT_zero ds (by omega)]; omega
    · have := dbT_len ds h k (by omega)
      rw [dbT_succ ds k hp (by omega)]
      simp; omega
theorem dbT_all (ds : List Db) : dbT (ds.take ds.length) = dbT ds := by rw [List.take_length]

theorem isDoublingT_any (f t : Int) (w : World) :
    Calls Tryd.prog 12 #[.agg #[.int .i64 f, .int .i64 t]] w fun e w' => e = .returned (.bool (two 4 f t)) ∧ Below w.heap.size w w' := by
  have HT := hide (fun W => areTwoAmong_any 4 f t W)
  generalize two 4 f t = b at *
  go_enter Tryd.func12, Tryd.ntmps12
  go_wp2_with fail
  refine (HT.out _).mono ?_; rintro e w' ⟨rfl, rfl⟩
  go_wp2_with fail
  go_ret
  exact ⟨rfl, (Below.refl _ _).alloc (Nat.le_refl _) _⟩

theorem ItoaS_any (x : Int) (h0 : 0 ≤ x) (h1 : x < 4) (w : World) :
    Calls Tryd.prog 13 #[.int .i64 x] w fun e w' => e = .returned (.string (bs (dtxt x))) ∧ w = w' := by
  have h := Tryd.strconv_Itoa_small x.toNat (by omega) w
  rw [show ((x.toNat : Nat) : Int) = x from by omega] at h
  exact h.mono fun e w' ⟨he, hw⟩ => ⟨he, hw.symm⟩

set_option maxRecDepth 1000000 in
set_option maxHeartbeats 4000000 in
theorem DoublingsText_any (A : Option Addr) (n c B : Nat) (ds : List Db) (w : World) (hr : Dbs w B A n ds) (hB : B ≤ w.heap.size) (hn : n ≤ 1099511627776) :
    Calls Tryd.prog 7 #[.slice A n c] w fun e w' => e = .returned (.tuple #[.string (dbsT ds), .bool (dbsOk ds)]) ∧ Below w.heap.size w w' := by
  obtain rfl := hr.len
  by_cases hl : ds.length ≤ 100
  · have hmk := run_make_row' (P := Tryd.prog) 36 9 (.string ⟨#[]⟩) 16 Tryd.underlying36 infoStr rfl .i64 .i64 ds.length (by omega) (by omega)
    go_enter Tryd.func7, Tryd.ntmps7
    go_wp2_with fail
    go_loopw [15] (fun i wr => ∃ k : Nat, k ≤ ds.length ∧ i = .int .i64 k ∧ Hid (∀ (j : Nat) (_ : j < ds.length), j < k → two 4 ds[j].x0 ds[j].x1 = true) ∧ wr.rowIs w.heap.size 9 ds.length (fun j => if j < k then .string (bs (dbW (ds.getD j ⟨0, 0⟩))) else .string ⟨#[]⟩) ∧ Below w.heap.size w wr ∧ w.heap.size < wr.heap.size)
      (fun i _ => ds.length - (intOf i).toNat)
    case atStart => exact ⟨0, Nat.zero_le _, rfl, hide (fun _ _ h => by omega), (World.rowIs_made w _ _ _).congr (fun i _ => by simp), (Below.refl _ _).alloc (Nat.le_refl _) _, by simp⟩
    case round =>
      obtain ⟨k, hk, rfl, HAll, hrow, hb, hs⟩ := hrel
      by_cases hlt : k < ds.length
      · obtain ⟨b, off, rfl, hab, hc0, hc1⟩ := (hr.below hb hB).at_ hlt hlt
        have HD := hide (fun W => isDoublingT_any ds[k].x0 ds[k].x1 W)
        have Hrow := hide hrow
        have hb0 := hb.size
        clear hrow
        cases htw : two 4 ds[k].x0 ds[k].x1
        · have HN := hide (show dbsOk ds = false from by unfold dbsOk; rw [dbGoodL_not k hlt htw]; simp)
          have HN2 := hide (show dbsT ds = ⟨#[]⟩ from by unfold dbsT; rw [HN.out]; rfl)
          rw [htw] at HD
          clear htw
          generalize ds[k] = d at *
          go_wp2_with fail
          refine (HD.out _).mono ?_; rintro e w2 ⟨rfl, hb2⟩
          go_wp2_with fail
          go_ret2
          rw [HN.out, HN2.out]
          exact ⟨rfl, below_next (hb.alloc hb0 _) hb2⟩
        · have hbd := two_bd htw
          have HI0 := hide (fun W => ItoaS_any ds[k].x0 hbd.1 hbd.2.1 W)
          have HI1 := hide (fun W => ItoaS_any ds[k].x1 hbd.2.2.1 hbd.2.2.2.1 W)
          have HG := hide (show ds.getD k ⟨0, 0⟩ = ds[k] from by simp [List.getD, List.getElem?_eq_getElem hlt])
          have HT := hide htw
          have hadd : ∀ W, (Op.stringOp .add (bs (dtxt ds[k].x0)) (bs (dtxt ds[k].x1))).run Tryd.prog W = .ok (.string (bs (dbW ds[k]))) W := fun W => by
            rw [run_string_add_sum W _ _ (by rw [bs_size, bs_size, dtxt_digit hbd.1 hbd.2.1, dtxt_digit hbd.2.2.1 hbd.2.2.2.1]; omega), bs_append]; rfl
          have HA := hide hadd
          rw [htw] at HD
          clear htw hadd hbd
          generalize hsk : bs (dbW ds[k]) = sk at *
          have HSK := hide hsk
          clear hsk
          generalize bs (dtxt ds[k].x0) = s0 at *
          generalize bs (dtxt ds[k].x1) = s1 at *
          generalize hdk : ds[k] = d at *
          have HDK := hide hdk
          clear hdk
          have hadd := HA.out
          go_wp2_with fail
          have hbo : Below w.heap.size w (wr.alloc (.cells #[.int .i64 d.x0, .int .i64 d.x1] 33)) := hb.alloc hb0 _
          have k0 : (wr.alloc (.cells #[.int .i64 d.x0, .int .i64 d.x1] 33)).cell? ⟨wr.heap.size, 0, none⟩ = some (.int .i64 d.x0) := by simp
          have k1 : (wr.alloc (.cells #[.int .i64 d.x0, .int .i64 d.x1] 33)).cell? ⟨wr.heap.size, 1, none⟩ = some (.int .i64 d.x1) := by simp
          have z0 : wr.heap.size < (wr.alloc (.cells #[.int .i64 d.x0, .int .i64 d.x1] 33)).heap.size := by simp
          have hrow0 := Hrow.out.of_block (w' := wr.alloc (.cells #[.int .i64 d.x0, .int .i64 d.x1] 33)) (Below.heap_alloc _ _ _ hs)
          generalize (wr.alloc (.cells #[.int .i64 d.x0, .int .i64 d.x1] 33)) = W0 at *
          refine (HD.out _).mono ?_; rintro e w2 ⟨rfl, hb2⟩
          have c0 := (hb2.cell (p := ⟨wr.heap.size, 0, none⟩) z0).trans k0
          have c1 := (hb2.cell (p := ⟨wr.heap.size, 1, none⟩) z0).trans k1
          have hrow2 := hrow0.of_block (hb2.block _ (by omega))
          have hold := hrow2.cell hlt
          have hfz := hrow2.frozen k
          have s2 := hb2.size
          have Hrow2 := hide hrow2
          clear hrow2 hrow0 k0 k1
          have hlti : (k : Int) < (ds.length : Int) := by omega
          go_wp2_with fail
          go_region_with (go_at_call 13; first | ((with_reducible refine (HI0.out _).mono ?_); rintro e w' ⟨rfl, rfl⟩) | ((with_reducible refine (HI1.out _).mono ?_); rintro e w' ⟨rfl, rfl⟩))
          all_goals
            go_wp2_with fail
            go_roundw
            case rel =>
              refine ⟨k + 1, by omega, by go_num, hide (fun j hj hjk => ?_), (Hrow2.out.set k _).congr (fun i hi => ?_), ((below_next hbo hb2).setCell (Nat.le_refl _) _ (p := ⟨w.heap.size, k, none⟩)).drew, by simp; omega⟩
              · rcases Nat.lt_or_ge j k with h | h
                · exact HAll.out j hj h
                · have e : j = k := by omega
                  subst e; rw [HDK.out]; exact HT.out
              · by_cases e : i = k
                · subst e; rw [if_pos rfl, if_pos (by omega), HG.out, HSK.out]
                · rw [if_neg e]
                  by_cases h2 : i < k
                  · rw [if_pos h2, if_pos (by omega)]
                  · rw [if_neg h2, if_neg (by omega)]
            case measure => simp [intOf]; omega
      · have hgl : dbGoodL ds = true := dbGoodL_of (fun j hj => HAll.out j hj (by omega))
        have HN := hide (show dbsOk ds = true from by unfold dbsOk; rw [hgl, decide_eq_true hl]; rfl)
        have HN2 := hide (show dbsT ds = bs (dbT ds) from by unfold dbsT; rw [HN.out]; rfl)
        have HL := dbT_len ds (fun j hj => dbGoodL_get hgl j hj) ds.length (Nat.le_refl _)
        rw [dbT_all] at HL
        have hm : (ds.map fun d => bs (dbW d)).map (·.data.toList) = ds.map dbW := by simp [bs]
        have hj := Tryd.strings_Join w.heap.size 0 ds.length (ds.map fun d => bs (dbW d)) ⟨#[45]⟩ wr (by
          intro j x hx
          rw [List.getElem?_map] at hx
          obtain ⟨z, hz, rfl⟩ := Option.map_eq_some_iff.1 hx
          obtain ⟨hj, rfl⟩ := List.getElem?_eq_some_iff.1 hz
          have := hrow.cell hj
          rw [if_pos (by omega)] at this
          rw [Nat.zero_add, this]
          simp [List.getD, hj]) hs (by simp; omega) (by simp) (by
          rw [hm]; show (dbT ds).length ≤ _; omega)
        rw [hm, List.length_map] at hj
        have HJ := hide hj
        clear hj hm hrow HL hgl
        go_wp2_with fail
        refine HJ.out.mono ?_; rintro e w2 ⟨rfl, hb2⟩
        go_wp2_with fail
        go_ret2
        rw [HN.out, HN2.out]
        exact ⟨rfl, hb.trans (hb2.mono hb.size)⟩
  · have HN := hide (show dbsOk ds = false from by unfold dbsOk; rw [decide_eq_false hl]; rfl)
    have HN2 := hide (show dbsT ds = ⟨#[]⟩ from by unfold dbsT; rw [HN.out]; rfl)
    rw [HN.out, HN2.out]
    go_enter Tryd.func7, Tryd.ntmps7
    go_wp2_with fail
    go_ret2
    exact ⟨rfl, Below.refl _ _⟩

set_option maxRecDepth 1000000 in
/-- The model's dbList. -/
theorem dbList_any (A : Option Addr) (n c B : Nat) (ds : List Db) (w : World) (hr : Dbs w B A n ds) (hB : B ≤ w.heap.size) (hn : n ≤ 1099511627776) :
    Calls Tryd.prog 9 #[.slice A n c] w fun e w' => e = .returned (.bool (dbsOk ds)) ∧ Below w.heap.size w w' := by
  obtain rfl := hr.len
  by_cases hl : ds.length ≤ 100
  · go_enter Tryd.func9, Tryd.ntmps9
    go_wp2_with fail
    go_loopw [10] (fun i wr => ∃ k : Nat, k ≤ ds.length ∧ i = .int .i64 k ∧ Hid (∀ (j : Nat) (_ : j < ds.length), j < k → two 4 ds[j].x0 ds[j].x1 = true) ∧ Below w.heap.size w wr)
      (fun i _ => ds.length - (intOf i).toNat)
    case atStart => exact ⟨0, Nat.zero_le _, rfl, hide (fun _ _ h => by omega), Below.refl _ _⟩
    case round =>
      obtain ⟨k, hk, rfl, HAll, hb⟩ := hrel
      by_cases hlt : k < ds.length
      · obtain ⟨b, off, rfl, hab, hc0, hc1⟩ := (hr.below hb hB).at_ hlt hlt
        have hb0 := hb.size
        have HA := hide (fun W => l1In_any ds[k].x0 0 3 W)
        have HB := hide (fun W => l1In_any ds[k].x1 0 3 W)
        by_cases h0 : 0 ≤ ds[k].x0 ∧ ds[k].x0 ≤ 3
        · rw [decide_eq_true h0] at HA
          by_cases h1 : 0 ≤ ds[k].x1 ∧ ds[k].x1 ≤ 3
          · rw [decide_eq_true h1] at HB
            by_cases h2 : ds[k].x0 = ds[k].x1
            · have h2' : (ds[k].x0 == ds[k].x1) = true := by simpa using h2
              have HN := hide (show dbsOk ds = false from by unfold dbsOk; rw [dbGoodL_not k hlt (two_no (fun h => h.2.2.2.2 h2))]; simp)
              clear h0 h1 h2
              generalize ds[k] = d at *
              go_wp2_with fail
              refine (HA.out _).mono ?_; rintro e w2 ⟨rfl, rfl⟩
              go_wp2_with fail
              refine (HB.out _).mono ?_; rintro e w2 ⟨rfl, rfl⟩
              go_wp2_with fail
              go_ret
              exact ⟨by rw [HN.out]; rfl, hb.alloc hb0 _⟩
            · have h2' : (ds[k].x0 == ds[k].x1) = false := by simpa using h2
              have HT := hide (two_yes (n := 4) (f := ds[k].x0) (t := ds[k].x1) (by omega))
              clear h0 h1 h2
              generalize hdk : ds[k] = d at *
              have HDK := hide hdk
              clear hdk
              go_wp2_with fail
              refine (HA.out _).mono ?_; rintro e w2 ⟨rfl, rfl⟩
              go_wp2_with fail
              refine (HB.out _).mono ?_; rintro e w2 ⟨rfl, rfl⟩
              go_wp2_with fail
              go_roundw
              case rel =>
                refine ⟨k + 1, by omega, by go_num, hide (fun j hj hjk => ?_), hb.alloc hb0 _⟩
                rcases Nat.lt_or_ge j k with h | h
                · exact HAll.out j hj h
                · have e : j = k := by omega
                  subst e; rw [HDK.out]; exact HT.out
              case measure => simp [intOf]; omega
          · rw [decide_eq_false h1] at HB
            have HN := hide (show dbsOk ds = false from by unfold dbsOk; rw [dbGoodL_not k hlt (two_no (fun h => h1 (by omega)))]; simp)
            clear h0 h1
            generalize ds[k] = d at *
            go_wp2_with fail
            refine (HA.out _).mono ?_; rintro e w2 ⟨rfl, rfl⟩
            go_wp2_with fail
            refine (HB.out _).mono ?_; rintro e w2 ⟨rfl, rfl⟩
            go_wp2_with fail
            go_ret
            exact ⟨by rw [HN.out]; rfl, hb.alloc hb0 _⟩
        · rw [decide_eq_false h0] at HA
          have HN := hide (show dbsOk ds = false from by unfold dbsOk; rw [dbGoodL_not k hlt (two_no (fun h => h0 (by omega)))]; simp)
          clear h0
          generalize ds[k] = d at *
          go_wp2_with fail
          refine (HA.out _).mono ?_; rintro e w2 ⟨rfl, rfl⟩
          go_wp2_with fail
          go_ret
          exact ⟨by rw [HN.out]; rfl, hb.alloc hb0 _⟩
      · have hgl : dbGoodL ds = true := dbGoodL_of (fun j hj => HAll.out j hj (by omega))
        have HN := hide (show dbsOk ds = true from by unfold dbsOk; rw [hgl, decide_eq_true hl]; rfl)
        clear hgl
        go_wp2_with fail
        go_ret
        exact ⟨by rw [HN.out]; rfl, hb⟩
  · have HN := hide (show dbsOk ds = false from by unfold dbsOk; rw [decide_eq_false hl]; rfl)
    rw [HN.out]
    go_enter Tryd.func9, Tryd.ntmps9
    go_wp2_with fail
    go_ret
    exact ⟨rfl, Below.refl _ _⟩

set_option maxRecDepth 1000000 in
set_option maxHeartbeats 4000000 in
/-- The model's dbText. -/
theorem dbText_any (A : Option Addr) (n c B : Nat) (ds : List Db) (w : World) (hr : Dbs w B A n ds) (hB : B ≤ w.heap.size) (hl : n ≤ 100) (hg : dbGoodL ds = true) :
    Calls Tryd.prog 10 #[.slice A n c] w fun e w' => e = .returned (.string (bs (dbT ds))) ∧ Below w.heap.size w w' := by
  obtain rfl := hr.len
  have HT := hide (fun k hk => dbGoodL_get hg k hk)
  have HL := hide (dbT_len ds (fun j hj => dbGoodL_get hg j hj))
  clear hg
  go_enter Tryd.func10, Tryd.ntmps10
  go_wp2_with fail
  go_loopw [3, 8] (fun t i wr => ∃ k : Nat, k ≤ ds.length ∧ i = .int .i64 k ∧ t = .string (bs (dbT (ds.take k))) ∧ Below w.heap.size w wr)
    (fun _ i _ => ds.length - (intOf i).toNat)
  case atStart => exact ⟨0, Nat.zero_le _, rfl, rfl, Below.refl _ _⟩
  case round =>
    obtain ⟨k, hk, rfl, rfl, hb⟩ := hrel
    have hb0 := hb.size
    by_cases hlt : k < ds.length
    · obtain ⟨b, off, rfl, hab, hc0, hc1⟩ := (hr.below hb hB).at_ hlt hlt
      have hbd := two_bd (HT.out k hlt)
      have hlk := HL.out k hk
      have hd0 := dtxt_digit hbd.1 hbd.2.1
      have hd1 := dtxt_digit hbd.2.2.1 hbd.2.2.2.1
      have HN0 := hide (fun W => l1Num_any 0 ds[k].x0.toNat W (by omega) (by omega))
      have HN1 := hide (fun W => l1Num_any 0 ds[k].x1.toNat W (by omega) (by omega))
      rw [show ((ds[k].x0.toNat : Nat) : Int) = ds[k].x0 from by omega] at HN0
      rw [show ((ds[k].x1.toNat : Nat) : Int) = ds[k].x1 from by omega] at HN1
      have hpair : ∀ W, (Op.stringOp .add (bs (Lib.decDigits ds[k].x0.toNat)) (bs (Lib.decDigits ds[k].x1.toNat))).run Tryd.prog W = .ok (.string (bs (dbW ds[k]))) W := fun W => by
        rw [run_string_add_sum W _ _ (by rw [bs_size, bs_size]; unfold dtxt at hd0 hd1; omega), bs_append]; rfl
      have HPair := hide hpair
      have hdw := dbW_len (HT.out k hlt)
      clear hpair hbd hd0 hd1
      by_cases h0 : k = 0
      · have hadd : ∀ W, (Op.stringOp .add (bs (dbT (ds.take k))) (bs (dbW ds[k]))).run Tryd.prog W = .ok (.string (bs (dbT (ds.take (k + 1))))) W := fun W => by
          rw [run_string_add_sum W _ _ (by rw [bs_size, bs_size]; omega), bs_append]
          subst h0
          rw [show (0 + 1) = 1 from rfl, dbT_zero ds hlt]
          rfl
        have HA := hide hadd
        have hk0 : (k : Int) ≤ 0 := by omega
        clear hadd h0
        clear hlk hdw
        generalize bs (Lib.decDigits ds[k].x0.toNat) = s0 at *
        generalize bs (Lib.decDigits ds[k].x1.toNat) = s1 at *
        generalize bs (dbW ds[k]) = sp at *
        generalize bs (dbT (ds.take k)) = sk at *
        generalize hs2 : bs (dbT (ds.take (k + 1))) = sn at *
        have HS2 := hide hs2
        clear hs2
        generalize ds[k] = d at *
        have hadd := HA.out
        have hpair := HPair.out
        go_wp2_with fail
        have hbo : Below w.heap.size w (wr.alloc (.cells #[.int .i64 d.x0, .int .i64 d.x1] 33)) := hb.alloc hb0 _
        have k0 : (wr.alloc (.cells #[.int .i64 d.x0, .int .i64 d.x1] 33)).cell? ⟨wr.heap.size, 0, none⟩ = some (.int .i64 d.x0) := by simp
        have k1 : (wr.alloc (.cells #[.int .i64 d.x0, .int .i64 d.x1] 33)).cell? ⟨wr.heap.size, 1, none⟩ = some (.int .i64 d.x1) := by simp
        have z0 : wr.heap.size < (wr.alloc (.cells #[.int .i64 d.x0, .int .i64 d.x1] 33)).heap.size := by simp
        generalize (wr.alloc (.cells #[.int .i64 d.x0, .int .i64 d.x1] 33)) = W0 at *
        generalize wr.heap.size = bx at *
        have HS : Hid (∀ W', Below W0.heap.size W0 W' → (Below W0.heap.size W0 W' ∧ W'.cell? ⟨bx, 0, none⟩ = some (.int .i64 d.x0) ∧ W'.cell? ⟨bx, 1, none⟩ = some (.int .i64 d.x1))) :=
          hide fun W' h => ⟨h, (h.cell (p := ⟨bx, 0, none⟩) z0).trans k0, (h.cell (p := ⟨bx, 1, none⟩) z0).trans k1⟩
        first | go_region_held3 (fun W => Below W0.heap.size W0 W ∧ W.cell? ⟨bx, 0, none⟩ = some (.int .i64 d.x0) ∧ W.cell? ⟨bx, 1, none⟩ = some (.int .i64 d.x1))
          (first | exact HS.out _ (Below.refl _ _).drew | exact HS.out _ (below_next (And.left (by assumption)) hbn0) | exact HS.out _ (below_next (And.left (by assumption)) hbn1) | go_keep)
          (first
          | (go_at_call 17; (with_reducible refine (HN0.out _).mono ?_); rintro e wn0 ⟨rfl, hbn0⟩)
          | (go_at_call 17; (with_reducible refine (HN1.out _).mono ?_); rintro e wn1 ⟨rfl, hbn1⟩)) | fail
        have hB1 : Below W0.heap.size W0 wn1 := below_next (w1 := wn0) (below_next (w1 := W0.drew) (Below.refl _ _).drew hbn0) hbn1
        clear hbn0
        go_wp2_with fail
        go_roundw
        case rel => exact ⟨k + 1, by omega, by go_num, by rw [HS2.out], hbo.trans (hB1.mono hbo.size)⟩
        case measure => simp [intOf]; omega
      · have hmid : ∀ W, (Op.stringOp .add (bs (dbT (ds.take k))) ⟨#[45]⟩).run Tryd.prog W = .ok (.string (bs (dbT (ds.take k) ++ [45]))) W := fun W => by
          rw [run_string_add_sum W _ _ (by rw [bs_size]; show _ + 1 ≤ _; omega), show (⟨#[45]⟩ : ByteArray) = bs [45] from rfl, bs_append]
        have hadd : ∀ W, (Op.stringOp .add (bs (dbT (ds.take k) ++ [45])) (bs (dbW ds[k]))).run Tryd.prog W = .ok (.string (bs (dbT (ds.take (k + 1))))) W := fun W => by
          rw [run_string_add_sum W _ _ (by rw [bs_size, bs_size]; simp; omega), bs_append, dbT_succ ds k (by omega) hlt]
        have HM := hide hmid
        have HA := hide hadd
        have hk0 : 0 < (k : Int) := by omega
        clear hadd hmid h0
        generalize bs (dbT (ds.take k) ++ [45]) = sm at *
        clear hlk hdw
        generalize bs (Lib.decDigits ds[k].x0.toNat) = s0 at *
        generalize bs (Lib.decDigits ds[k].x1.toNat) = s1 at *
        generalize bs (dbW ds[k]) = sp at *
        generalize bs (dbT (ds.take k)) = sk at *
        generalize hs2 : bs (dbT (ds.take (k + 1))) = sn at *
        have HS2 := hide hs2
        clear hs2
        generalize ds[k] = d at *
        have hadd := HA.out
        have hpair := HPair.out
        have hmid := HM.out
        go_wp2_with fail
        have hbo : Below w.heap.size w (wr.alloc (.cells #[.int .i64 d.x0, .int .i64 d.x1] 33)) := hb.alloc hb0 _
        have k0 : (wr.alloc (.cells #[.int .i64 d.x0, .int .i64 d.x1] 33)).cell? ⟨wr.heap.size, 0, none⟩ = some (.int .i64 d.x0) := by simp
        have k1 : (wr.alloc (.cells #[.int .i64 d.x0, .int .i64 d.x1] 33)).cell? ⟨wr.heap.size, 1, none⟩ = some (.int .i64 d.x1) := by simp
        have z0 : wr.heap.size < (wr.alloc (.cells #[.int .i64 d.x0, .int .i64 d.x1] 33)).heap.size := by simp
        generalize (wr.alloc (.cells #[.int .i64 d.x0, .int .i64 d.x1] 33)) = W0 at *
        generalize wr.heap.size = bx at *
        have HS : Hid (∀ W', Below W0.heap.size W0 W' → (Below W0.heap.size W0 W' ∧ W'.cell? ⟨bx, 0, none⟩ = some (.int .i64 d.x0) ∧ W'.cell? ⟨bx, 1, none⟩ = some (.int .i64 d.x1))) :=
          hide fun W' h => ⟨h, (h.cell (p := ⟨bx, 0, none⟩) z0).trans k0, (h.cell (p := ⟨bx, 1, none⟩) z0).trans k1⟩
        first | go_region_held3 (fun W => Below W0.heap.size W0 W ∧ W.cell? ⟨bx, 0, none⟩ = some (.int .i64 d.x0) ∧ W.cell? ⟨bx, 1, none⟩ = some (.int .i64 d.x1))
          (first | exact HS.out _ (Below.refl _ _).drew | exact HS.out _ (below_next (And.left (by assumption)) hbn0) | exact HS.out _ (below_next (And.left (by assumption)) hbn1) | go_keep)
          (first
          | (go_at_call 17; (with_reducible refine (HN0.out _).mono ?_); rintro e wn0 ⟨rfl, hbn0⟩)
          | (go_at_call 17; (with_reducible refine (HN1.out _).mono ?_); rintro e wn1 ⟨rfl, hbn1⟩)) | fail
        have hB1 : Below W0.heap.size W0 wn1 := below_next (w1 := wn0) (below_next (w1 := W0.drew) (Below.refl _ _).drew hbn0) hbn1
        clear hbn0
        go_wp2_with fail
        go_roundw
        case rel => exact ⟨k + 1, by omega, by go_num, by rw [HS2.out], hbo.trans (hB1.mono hbo.size)⟩
        case measure => simp [intOf]; omega
    · have e : k = ds.length := by omega
      have HE := hide (show bs (dbT (ds.take k)) = bs (dbT ds) from by rw [e, dbT_all])
      clear e
      go_wp2_with fail
      go_ret
      exact ⟨by rw [← HE.out]; rfl, hb⟩

theorem specDoublingsText_any (A : Option Addr) (n c B : Nat) (ds : List Db) (w : World) (hr : Dbs w B A n ds) (hB : B ≤ w.heap.size) (hn : n ≤ 1099511627776) :
    Calls Tryd.prog 5 #[.slice A n c] w fun e w' => e = .returned (.tuple #[.string (dbsT ds), .bool (dbsOk ds)]) ∧ Below w.heap.size w w' := by
  obtain rfl := hr.len
  have HG := hide (dbList_any A ds.length c B ds w hr hB hn)
  cases hg : dbsOk ds
  · have H := hide (show dbsT ds = ⟨#[]⟩ from by unfold dbsT; rw [hg]; rfl)
    rw [hg] at HG
    rw [H.out]
    clear hg
    go_enter Tryd.func5, Tryd.ntmps5
    go_wp2_with fail
    refine HG.out.mono ?_; rintro e w1 ⟨rfl, hb1⟩
    go_wp2_with fail
    go_ret2
    exact ⟨rfl, hb1⟩
  · have H := hide (show dbsT ds = bs (dbT ds) from by unfold dbsT; rw [hg]; rfl)
    have hg2 : ds.length ≤ 100 ∧ dbGoodL ds = true := by unfold dbsOk at hg; simpa using hg
    have HJ := hide (fun W (h : Dbs W B A ds.length ds) (h' : B ≤ W.heap.size) => dbText_any A ds.length c B ds W h h' hg2.1 hg2.2)
    rw [hg] at HG
    rw [H.out]
    generalize bs (dbT ds) = t at *
    clear hg hg2
    go_enter Tryd.func5, Tryd.ntmps5
    go_wp2_with fail
    refine HG.out.mono ?_; rintro e w1 ⟨rfl, hb1⟩
    have s1 := hb1.size
    go_wp2_with fail
    refine (HJ.out _ (hr.below hb1 hB) (by omega)).mono ?_; rintro e w2 ⟨rfl, hb2⟩
    go_wp2_with fail
    go_ret2
    exact ⟨rfl, below_next hb1 hb2⟩

theorem Dbs.next {w w' : World} {A : Option Addr} {n : Nat} {ms : List Db} (h : Dbs w w.heap.size A n ms) (hb : Below w.heap.size w w') : Dbs w' w'.heap.size A n ms := (h.below hb (Nat.le_refl _)).more hb.size

set_option maxRecDepth 1000000 in
theorem lawDoublingsText (A : Option Addr) (n c : Nat) (ds : List Db) (w : World) (hr : Dbs w w.heap.size A n ds) (hmax : n ≤ 9223372036854775807) :
    Calls Tryd.prog 3 #[.slice A n c] w fun e w' => e = .returned (.bool true) ∧ Below w.heap.size w w' := by
  obtain rfl := hr.len
  have hsz := szDoublingS_any A ds.length c 1048576 w hmax (by omega) (by omega)
  by_cases hbig : 1048576 < ds.length
  · rw [if_pos (by omega)] at hsz
    have HZ := hide hsz
    clear hsz
    go_enter Tryd.func3, Tryd.ntmps3
    go_wp2_with fail
    refine HZ.out.mono ?_; rintro e w1 ⟨rfl, rfl⟩
    go_wp2_with fail
    go_ret
    exact ⟨rfl, Below.refl _ _⟩
  · rw [if_neg (by omega)] at hsz
    have HZ := hide hsz
    clear hsz
    have hcap : ds.length ≤ 1099511627776 := by omega
    have hleft : 0 ≤ 1048576 - (ds.length : Int) := by omega
    have HS := hide (fun (g : Nat) (B : Nat) (W : World) (h1 : Dbs W B (some ⟨g, 0, none⟩) ds.length ds) (h2 : B ≤ W.heap.size) => specDoublingsText_any (some ⟨g, 0, none⟩) ds.length ds.length B ds W h1 h2 hcap)
    have HI := hide (fun (g : Nat) (B : Nat) (W : World) (h1 : Dbs W B (some ⟨g, 0, none⟩) ds.length ds) (h2 : B ≤ W.heap.size) => DoublingsText_any (some ⟨g, 0, none⟩) ds.length ds.length B ds W h1 h2 hcap)
    generalize dbsT ds = t at *
    generalize dbsOk ds = o at *
    have e2 : (o != o) = false := by simp
    go_enter Tryd.func3, Tryd.ntmps3
    go_wp2_with fail
    refine HZ.out.mono ?_; rintro e w0 ⟨rfl, rfl⟩
    go_wp2_with fail
    refine (toDoublingS_any _ _ _ _ _ hr hcap).mono ?_
    rintro e w1 ⟨g1, _, hz1, rfl, hrow1, hb1⟩
    have hr1 := hr.next hb1
    go_wp2_with fail
    refine (HS.out _ _ _ (hrow1.list hz1) (Nat.le_refl _)).mono ?_
    rintro e w2 ⟨rfl, hb2⟩
    have hr2 := hr1.next hb2
    go_wp2_with fail
    refine (toDoublingS_any _ _ _ _ _ hr2 hcap).mono ?_
    rintro e w3 ⟨g2, _, hz2, rfl, hrow2, hb3⟩
    have hr3 := hr2.next hb3
    have hx3 := hrow2.list hz2
    go_wp2_with fail
    refine (HI.out _ _ _ hx3 (Nat.le_refl _)).mono ?_
    rintro e w4 ⟨rfl, hb4⟩
    have hr4 := hr3.next hb4
    have hx4 := hx3.next hb4
    go_wp2_with fail
    refine (toDoublingS_any _ _ _ _ _ hr4 hcap).mono ?_
    rintro e w5 ⟨g3, _, hz3, rfl, hrow3, hb5⟩
    have hx5 := hx4.next hb5
    go_wp2_with fail
    refine (eqDoublingS_same _ _ _ _ _ _ _ _ _ hx5 (hrow3.list hz3) (Nat.le_refl _) (Nat.le_refl _) hcap).mono ?_
    rintro e w6 ⟨rfl, hb6⟩
    go_wp2_with fail
    go_ret
    exact ⟨rfl, below_next (below_next (below_next (below_next (below_next hb1 hb2) hb3) hb4) hb5) hb6⟩
end Go.Proofs.YtpfchdhbdlcddaaDoor
