import Derived.Test.YtnakkmmmkbjfbaaMg06
import Derived.Test.YtnakkmmmkbjfbaaMg03
import Derived.Maps.OwnSet
import Derived.DeepKeys4
import Derived.WideKeyPair
import Derived.Test.YtnakkmmmkbjfbaaMg01
import Derived.Test.YtnakkmmmkbjfbaaMg04

/-
  THE MAP OF THE SEARCH: keys that are rows, elements that are doublings.
-/
namespace Go.Proofs.Ytnakkmmmkbjfbaa
open Go.RowKit Go.Deep
open Go.Maps (Keyed)
open Go.WideMaps
set_option linter.unusedVariables false

theorem laidOut : laidOutB Try.prog = true := by kernel_rfl
theorem arrR : ArrKey Try.prog 42 3 4 := ⟨Try.underlying42, by kernel_rfl, by kernel_rfl, by kernel_rfl⟩
theorem rowR : (42 : TypeId) < Try.prog.types.size := of_decide_eq_true (by kernel_rfl)
theorem wideR : (match Try.prog.underlying 42 with | some (.array _ _) | some (.struct _) => true | _ => false) = true := by rw [Try.underlying42]
theorem lawR : Keyed Try.prog 42 := Keyed.of_law (deep_law_laid laidOut (m := 2) (by omega) rowR (by kernel_rfl) wideR)
theorem keyOf_four {P : Program} {k e : TypeId} {q : IntKind} (A : ArrKey P k e 4) (he : P.underlying e = some (.int q)) (hsz : ∃ m, P.types.size = m + 1) {a b c d : Int} (wa : (Lit.int q a).wf = true) (wb : (Lit.int q b).wf = true) (wc : (Lit.int q c).wf = true) (wd : (Lit.int q d).wf = true) :
    keyOf P k (.agg #[.int q a, .int q b, .int q c, .int q d]) = some (.string (keyBytes [.int q a, .int q b, .int q c, .int q d])) := by
  have hkt := A.keyType hsz
  obtain ⟨m, hm⟩ := hsz
  unfold keyOf
  simp only [A.hu]
  rw [if_pos (by simp [hkt, Value.formed, A.hu, A.size]), hm]
  unfold Program.keyLits
  simp only [A.hu, Value.cells]
  rw [if_pos (by rw [A.size]; rfl), show List.range 4 = [0, 1, 2, 3] from rfl, List.mapM_cons, List.mapM_cons, List.mapM_cons, List.mapM_cons, List.mapM_nil]
  simp [A.one, Program.keyLits, he, wa, wb, wc, wd]
/-- A row as a value, as a key. -/
abbrev aggR (zs : List Int) : Value := .agg #[.int .i64 (pd zs 0), .int .i64 (pd zs 1), .int .i64 (pd zs 2), .int .i64 (pd zs 3)]
def kR (zs : List Int) : Lit := .string (keyBytes [.int .i64 (pd zs 0), .int .i64 (pd zs 1), .int .i64 (pd zs 2), .int .i64 (pd zs 3)])
theorem pd_bd {zs : List Int} (hs : small zs) (k : Nat) : -1 ≤ pd zs k ∧ pd zs k ≤ 40 := by
  by_cases h : k < zs.length
  · rw [pd_lt h]; have := small_get hs k h; omega
  · rw [pd_ge (by omega)]; omega
theorem wf_of {a : Int} (h1 : -1 ≤ a) (h2 : a ≤ 1000000) : (Lit.int .i64 a).wf = true := WalkArith.wf_i64 (by omega)
theorem types_some : ∃ m, Try.prog.types.size = m + 1 := ⟨Try.prog.types.size - 1, (Nat.succ_pred_eq_of_pos (Nat.lt_of_le_of_lt (Nat.zero_le _) rowR)).symm⟩
theorem keyOf_R {zs : List Int} (hs : small zs) : keyOf Try.prog 42 (aggR zs) = some (kR zs) :=
  keyOf_four arrR Try.underlying3 types_some (wf_of (pd_bd hs 0).1 (by have := (pd_bd hs 0).2; omega)) (wf_of (pd_bd hs 1).1 (by have := (pd_bd hs 1).2; omega)) (wf_of (pd_bd hs 2).1 (by have := (pd_bd hs 2).2; omega)) (wf_of (pd_bd hs 3).1 (by have := (pd_bd hs 3).2; omega))
theorem pd_inj {xs ys : List Int} (hl : xs.length = ys.length) (h4 : ys.length ≤ 4) (h : ∀ k, k < 4 → pd xs k = pd ys k) : xs = ys := by
  apply List.ext_getElem hl
  intro k h1 h2
  have := h k (by omega)
  rwa [pd_lt h1, pd_lt h2] at this
theorem aggR_inj {xs ys : List Int} (hl : xs.length = ys.length) (h4 : ys.length ≤ 4) (h : aggR xs = aggR ys) : xs = ys := by
  injection h with h
  have h := congrArg Array.toList h
  simp at h
  obtain ⟨h0, h1, h2, h3⟩ := h
  refine pd_inj hl h4 fun k hk => ?_
  match k, hk with
  | 0, _ => exact h0
  | 1, _ => exact h1
  | 2, _ => exact h2
  | 3, _ => exact h3
theorem kR_inj {xs ys : List Int} (hx : small xs) (hy : small ys) (hl : xs.length = ys.length) (h4 : ys.length ≤ 4) (h : kR xs = kR ys) : xs = ys :=
  aggR_inj hl h4 (lawR.inj (keyOf_R hx) (by rw [h]; exact keyOf_R hy))
theorem kR_key (zs : List Int) : WideAt.IsKeyLit (kR zs) := trivial

/-! ### the elements -/
/-- How a doubling reads. -/
def dElemL : List Value → Option (DataW Unit × List MemPlace)
  | [.int .i64 a, .int .i64 b] => some (.agg [.lit (.int .i64 a), .lit (.int .i64 b)], [])
  | _ => none
def dElem : Value → Option (DataW Unit × List MemPlace)
  | .agg cs => dElemL cs.toList
  | _ => none
def dE (d : Db) : DataW Unit := .agg [.lit (.int .i64 d.x0), .lit (.int .i64 d.x1)]
theorem dElem_mk (d : Db) : dElem (.agg #[.int .i64 d.x0, .int .i64 d.x1]) = some (dE d, []) := rfl
theorem dElemL_inv {l : List Value} {d : Db} {ps : List MemPlace} (h : dElemL l = some (dE d, ps)) : l = [.int .i64 d.x0, .int .i64 d.x1] := by
  unfold dElemL at h
  split at h
  · injection h with h
    injection h with h _
    unfold dE at h
    injection h with h
    injection h with h1 h2
    injection h1 with h1
    injection h1 with _ h1
    injection h2 with h2 _
    injection h2 with h2
    injection h2 with _ h2
    rw [h1, h2]
  · cases h
theorem dElem_inv {v : Value} {d : Db} {ps : List MemPlace} (h : dElem v = some (dE d, ps)) : v = .agg #[.int .i64 d.x0, .int .i64 d.x1] := by
  unfold dElem at h
  split at h
  · rename_i cs
    have := dElemL_inv h
    congr 1
    apply Array.ext'
    rw [this]
  · cases h
def d00 : Db := ⟨0, 0⟩
def lastD (ds : List Db) : Db := ds.getLastD d00
theorem lastD_snoc (ds : List Db) (d : Db) : lastD (ds ++ [d]) = d := by simp [lastD]
/-- The map that goes with a queue. -/
def mapD (Q : List StP) : DataW Unit := Q.foldl (fun D p => D.put (kR p.1) (dE (lastD p.2))) (.map [])
theorem mapD_snoc (Q : List StP) (p : StP) : mapD (Q ++ [p]) = (mapD Q).put (kR p.1) (dE (lastD p.2)) := by simp [mapD, List.foldl_append]
theorem snoc_ind {P : List StP → Prop} (h0 : P []) (hs : ∀ Q p, P Q → P (Q ++ [p])) (Q : List StP) : P Q := by
  have : ∀ n (Q : List StP), Q.length = n → P Q := fun n => by
    induction n with
    | zero => intro Q h; rw [List.eq_nil_of_length_eq_zero h]; exact h0
    | succ n ih =>
      intro Q h
      have hne : Q ≠ [] := fun e => by rw [e] at h; simp at h
      rw [← List.dropLast_concat_getLast hne]
      exact hs _ _ (ih _ (by rw [List.length_dropLast]; omega))
  exact this _ Q rfl
theorem mapD_tidy (Q : List StP) : Maps.Tidy (mapD Q) := by
  refine snoc_ind (P := fun Q => Maps.Tidy (mapD Q)) Maps.tidy_empty (fun Q p ih => ?_) Q
  rw [mapD_snoc]
  exact ih.put (kR_key _) _
section
variable {zs : List Int}
theorem has_mapD (h4 : zs.length ≤ 4) {y : List Int} (hy : small y ∧ y.length = zs.length) (Q : List StP) : (∀ q ∈ Q, small q.1 ∧ q.1.length = zs.length ∧ q.1.sum = zs.sum) → Maps.has (mapD Q) (kR y) = decide (y ∈ Q.map Prod.fst) := by
  refine snoc_ind (P := fun Q => (∀ q ∈ Q, small q.1 ∧ q.1.length = zs.length ∧ q.1.sum = zs.sum) → Maps.has (mapD Q) (kR y) = decide (y ∈ Q.map Prod.fst)) (fun _ => rfl) (fun Q p ih hQ => ?_) Q
  have ih := ih fun q hq => hQ q (List.mem_append_left _ hq)
  have hp := hQ p (List.mem_append_right _ (List.mem_singleton.2 rfl))
  rw [mapD_snoc, List.map_append, List.map_singleton]
  by_cases e : y = p.1
  · subst e
    rw [Maps.has_put_same (mapD_tidy Q).isMap (kR_key _)]
    simp
  · have hne : kR y ≠ kR p.1 := fun h => e (kR_inj hy.1 hp.1 (by rw [hy.2, hp.2.1]) (by rw [hp.2.1]; exact h4) h)
    rw [Maps.has_put_other hne, ih]
    simp [e]
theorem at_mapD (h4 : zs.length ≤ 4) (z : DataW Unit) (Q : List StP) : (∀ q ∈ Q, small q.1 ∧ q.1.length = zs.length ∧ q.1.sum = zs.sum) → (Q.map Prod.fst).Nodup → ∀ p ∈ Q, (mapD Q).atKey (kR p.1) z = dE (lastD p.2) := by
  refine snoc_ind (P := fun Q => (∀ q ∈ Q, small q.1 ∧ q.1.length = zs.length ∧ q.1.sum = zs.sum) → (Q.map Prod.fst).Nodup → ∀ p ∈ Q, (mapD Q).atKey (kR p.1) z = dE (lastD p.2)) (fun _ _ p hp => absurd hp (by simp)) (fun Q r ih hQ hd p hp => ?_) Q
  rw [List.map_append, List.map_singleton, List.nodup_append] at hd
  obtain ⟨hd1, _, hd2⟩ := hd
  have ih := ih (fun q hq => hQ q (List.mem_append_left _ hq)) hd1
  rw [mapD_snoc]
  rcases List.mem_append.1 hp with hp | hp
  · have hne : kR p.1 ≠ kR r.1 := fun h => by
      have hp' := hQ p (List.mem_append_left _ hp)
      have hr' := hQ r (List.mem_append_right _ (List.mem_singleton.2 rfl))
      have := kR_inj hp'.1 hr'.1 (by rw [hp'.2.1, hr'.2.1]) (by rw [hr'.2.1]; exact h4) h
      exact hd2 p.1 (List.mem_map_of_mem hp) r.1 (List.mem_singleton.2 rfl) this
    rw [Maps.atKey_put_other hne]
    exact ih p hp
  · rw [List.mem_singleton] at hp
    subst hp
    rw [Maps.atKey_put_same (mapD_tidy Q).isMap (kR_key _)]
theorem size_mapD (h4 : zs.length ≤ 4) (Q : List StP) : (∀ q ∈ Q, small q.1 ∧ q.1.length = zs.length ∧ q.1.sum = zs.sum) → (Q.map Prod.fst).Nodup → Maps.size (mapD Q) = Q.length := by
  refine snoc_ind (P := fun Q => (∀ q ∈ Q, small q.1 ∧ q.1.length = zs.length ∧ q.1.sum = zs.sum) → (Q.map Prod.fst).Nodup → Maps.size (mapD Q) = Q.length) (fun _ _ => rfl) (fun Q r ih hQ hd => ?_) Q
  rw [List.map_append, List.map_singleton, List.nodup_append] at hd
  obtain ⟨hd1, _, hd2⟩ := hd
  have hQ' := fun q hq => hQ q (List.mem_append_left _ hq)
  have hr := hQ r (List.mem_append_right _ (List.mem_singleton.2 rfl))
  have hn : Maps.has (mapD Q) (kR r.1) = false := by
    rw [has_mapD h4 ⟨hr.1, hr.2.1⟩ Q hQ']
    exact decide_eq_false fun h => hd2 r.1 h r.1 (List.mem_singleton.2 rfl) rfl
  rw [mapD_snoc, Maps.size_put (mapD_tidy Q), hn, ih hQ' hd1]
  simp
end
/-- Block b is the map of a queue. -/
def MapQ (W : World) (b : Nat) (Q : List StP) : Prop := W.ownsMap Try.prog 42 dElem b Q.length (mapD Q)
theorem wpList_insert_own {H : Type} {P : Program} (w : World) {ops : Array Oper} {rest : List Oper} {o : Oper} {a : Act} {Q : Exit → Act → World → Prop}
    (hg : o.guard = none) (m x v : Operand) (t : TypeId) (hop : o.op = Op.insert t m x v)
    (k e : TypeId) (K : Keyed P k) (ht : P.underlying t = some (.map k e)) (R : Value → Option (DataW H × List MemPlace)) (b n : Nat) (D : DataW H)
    (hm : a.eval m = .map (some b)) (hown : w.ownsMap P k R b n D) (hn : n < maxLen) (key val : Value) (kl : Lit) (hx : a.eval x = key) (hv : a.eval v = val) (hkey : keyOf P k key = some kl)
    (d : DataW H) (ps : List MemPlace) (hval : R val = some (d, ps))
    (hK : ∀ w', w'.ownsMap P k R b (n + 1) (D.put kl d) → w.grownBy w' (some b) → wpList P ops Q rest (a.put o.dst undef) w') :
    wpList P ops Q (o :: rest) a w := by
  refine wpList_plain hg fun K' hK' => ?_
  obtain ⟨w', hrun, r1, r2⟩ := hown.update K ht hn hkey hval
  unfold Oper.wp
  simp [execOp, hop, hm, hx, hv, hrun, Result.andThen]
  exact hK' _ _ (hK w' r1 r2)
theorem zeroDb (w : World) : (zeroValue 38).run Try.prog w = .ok (.agg #[.int .i64 0, .int .i64 0]) w := by kernel_rfl
end Go.Proofs.Ytnakkmmmkbjfbaa

/-
  WHAT HEAPS ARE, BOTH WAYS: the program's AreHeaps, areWithin and the model's hpGood, l1All, l1In answer alike.
-/
namespace Go.Proofs.Ytnakkmmmkbjfbaa
open Go.RowKit Go.Deep

/-- The model's l1In. -/
theorem l1In_any (n lo hi : Int) (w : World) :
    Calls Try.prog 36 #[.int .i64 n, .int .i64 lo, .int .i64 hi] w fun e w' => e = .returned (.bool (decide (lo ≤ n ∧ n ≤ hi))) ∧ w = w' := by
  by_cases h1 : lo ≤ n
  · by_cases h2 : n ≤ hi
    all_goals
      go_enter Try.func36, Try.ntmps36
      go_wp2
      go_ret
      exact ⟨ret_bool (by simp; omega), rfl⟩
  · go_enter Try.func36, Try.ntmps36
    go_wp2
    go_ret
    exact ⟨ret_bool (by simp; omega), rfl⟩

/-- The program's areWithin. -/
theorem areWithin_any (A : Option Addr) (n c B : Nat) (zs : List Int) (lo hi : Int) (w : World) (hr : Ints w B A n zs) (hn : n ≤ 17592186044416) :
    Calls Try.prog 53 #[.slice A n c, .int .i64 lo, .int .i64 hi] w fun e w' => e = .returned (.bool (within lo hi zs)) ∧ w = w' := by
  have hlen := hr.len
  go_enter Try.func53, Try.ntmps53
  go_wp2
  go_loop [11] (fun i => ∃ k : Nat, k ≤ n ∧ i = .int .i64 k ∧ ∀ (j : Nat) (_ : j < zs.length), j < k → lo ≤ zs[j] ∧ zs[j] ≤ hi)
    (fun i => n - (intOf i).toNat)
  case atStart => exact ⟨0, Nat.zero_le _, rfl, fun j _ h => by omega⟩
  case round =>
    obtain ⟨k, hk, rfl, hall⟩ := hrel
    have Hall := hide hall
    clear hall
    by_cases hlt : k < n
    · have hkz : k < zs.length := by omega
      obtain ⟨ad, rfl, hab, hcell⟩ := hr.at_ hlt
      rw [show zs.getD k 0 = zs[k] from by simp [List.getD, List.getElem?_eq_getElem hkz]] at hcell
      by_cases h1 : lo ≤ zs[k]
      · by_cases h2 : zs[k] ≤ hi
        · go_wp2
          go_round
          case rel => exact ⟨k + 1, by omega, by go_num, fun j hj hjk => if e : j = k then by subst e; exact ⟨h1, h2⟩ else Hall.out j hj (by omega)⟩
          case measure => simp [intOf]; omega
        · have hw := within_not (lo := lo) (hi := hi) k hkz (fun h => h2 h.2)
          have Hw := hide hw
          clear hw
          go_wp2
          go_ret
          exact ⟨by rw [Hw.out]; rfl, rfl⟩
      · have hw := within_not (lo := lo) (hi := hi) k hkz (fun h => h1 h.1)
        have Hw := hide hw
        clear hw
        go_wp2
        go_ret
        exact ⟨by rw [Hw.out]; rfl, rfl⟩
    · go_wp2
      go_ret
      exact ⟨by rw [within_of (fun j hj => Hall.out j hj (by omega))]; rfl, rfl⟩

/-- The model's l1All. -/
theorem l1All_any (A : Option Addr) (n c B : Nat) (zs : List Int) (lo hi : Int) (w : World) (hr : Ints w B A n zs) (hn : n ≤ 17592186044416) :
    Calls Try.prog 47 #[.slice A n c, .int .i64 lo, .int .i64 hi] w fun e w' => e = .returned (.bool (within lo hi zs)) ∧ w = w' := by
  have hlen := hr.len
  go_enter Try.func47, Try.ntmps47
  go_wp2_with fail
  go_loop [11] (fun i => ∃ k : Nat, k ≤ n ∧ i = .int .i64 k ∧ ∀ (j : Nat) (_ : j < zs.length), j < k → lo ≤ zs[j] ∧ zs[j] ≤ hi)
    (fun i => n - (intOf i).toNat)
  case atStart => exact ⟨0, Nat.zero_le _, rfl, fun j _ h => by omega⟩
  case round =>
    obtain ⟨k, hk, rfl, hall⟩ := hrel
    have Hall := hide hall
    clear hall
    by_cases hlt : k < n
    · have hkz : k < zs.length := by omega
      obtain ⟨ad, rfl, hab, hcell⟩ := hr.at_ hlt
      rw [show zs.getD k 0 = zs[k] from by simp [List.getD, List.getElem?_eq_getElem hkz]] at hcell
      by_cases h1 : lo ≤ zs[k] ∧ zs[k] ≤ hi
      · have hd : decide (lo ≤ zs[k] ∧ zs[k] ≤ hi) = true := by simpa using h1
        go_wp2_with (go_at_call 36; refine (l1In_any _ _ _ _).mono ?_; rintro e w' ⟨rfl, rfl⟩; rw [hd])
        go_round
        case rel => exact ⟨k + 1, by omega, by go_num, fun j hj hjk => if e : j = k then by subst e; exact h1 else Hall.out j hj (by omega)⟩
        case measure => simp [intOf]; omega
      · have hd : decide (lo ≤ zs[k] ∧ zs[k] ≤ hi) = false := by simpa using h1
        have hw := within_not (lo := lo) (hi := hi) k hkz h1
        have Hw := hide hw
        clear hw h1
        go_wp2_with (go_at_call 36; refine (l1In_any _ _ _ _).mono ?_; rintro e w' ⟨rfl, rfl⟩; rw [hd])
        go_ret
        exact ⟨by rw [Hw.out]; rfl, rfl⟩
    · go_wp2_with fail
      go_ret
      exact ⟨by rw [within_of (fun j hj => Hall.out j hj (by omega))]; rfl, rfl⟩

theorem good_in {zs : List Int} (h : 1 ≤ zs.length ∧ zs.length ≤ 12) : good zs = within 0 1000 zs := by
  unfold good; simp [h]
theorem good_out {zs : List Int} (h : ¬ (1 ≤ zs.length ∧ zs.length ≤ 12)) : good zs = false := by
  unfold good; simp; omega

/-- The program's AreHeaps. -/
theorem AreHeaps_any (A : Option Addr) (n c B : Nat) (zs : List Int) (w : World) (hr : Ints w B A n zs) (hn : n ≤ 17592186044416) :
    Calls Try.prog 48 #[.slice A n c] w fun e w' => e = .returned (.bool (good zs)) ∧ w = w' := by
  have hlen := hr.len
  by_cases h1 : 1 ≤ n
  · by_cases h2 : n ≤ 12
    · have hg := good_in (zs := zs) (by omega)
      have Hg := hide hg
      clear hg
      have hw := areWithin_any A n c B zs 0 1000
      have Hw := hide hw
      clear hw
      go_enter Try.func48, Try.ntmps48
      go_wp2_with (go_at_call 53; refine (Hw.out _ hr hn).mono ?_; rintro e w' ⟨rfl, rfl⟩)
      go_ret
      exact ⟨by rw [Hg.out]; rfl, rfl⟩
    · have Hg := hide (good_out (zs := zs) (by omega))
      go_enter Try.func48, Try.ntmps48
      go_wp2_with fail
      go_ret
      exact ⟨by rw [Hg.out]; rfl, rfl⟩
  · have Hg := hide (good_out (zs := zs) (by omega))
    go_enter Try.func48, Try.ntmps48
    go_wp2_with fail
    go_ret
    exact ⟨by rw [Hg.out]; rfl, rfl⟩

/-- The model's hpGood. -/
theorem hpGood_any (A : Option Addr) (n c B : Nat) (zs : List Int) (w : World) (hr : Ints w B A n zs) (hn : n ≤ 17592186044416) :
    Calls Try.prog 37 #[.slice A n c] w fun e w' => e = .returned (.bool (good zs)) ∧ w = w' := by
  have hlen := hr.len
  by_cases h1 : 1 ≤ n ∧ n ≤ 12
  · have Hg := hide (good_in (zs := zs) (by omega))
    have hd : decide ((1 : Int) ≤ (n : Int) ∧ (n : Int) ≤ 12) = true := by simp; omega
    go_enter Try.func37, Try.ntmps37
    go_wp2_with fail
    refine (l1In_any _ _ _ _).mono ?_; rintro e w' ⟨rfl, rfl⟩; rw [hd]
    go_wp2_with fail
    refine (l1All_any _ _ _ _ _ _ _ _ hr hn).mono ?_; rintro e w' ⟨rfl, rfl⟩
    go_wp2_with fail
    go_ret
    exact ⟨by rw [Hg.out]; rfl, rfl⟩
  · have Hg := hide (good_out (zs := zs) (by omega))
    have hd : decide ((1 : Int) ≤ (n : Int) ∧ (n : Int) ≤ 12) = false := by simp; omega
    go_enter Try.func37, Try.ntmps37
    go_wp2_with fail
    refine (l1In_any _ _ _ _).mono ?_; rintro e w' ⟨rfl, rfl⟩; rw [hd]
    go_wp2_with fail
    go_ret
    exact ⟨by rw [Hg.out]; rfl, rfl⟩

end Go.Proofs.Ytnakkmmmkbjfbaa
