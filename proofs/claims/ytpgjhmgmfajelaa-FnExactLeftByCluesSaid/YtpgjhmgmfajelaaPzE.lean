
/-
  NEEDLESSCLUES, BOTH WAYS.
-/
import Derived.Test.YtpgjhmgmfajelaaPzC
import Derived.Test.YtpgjhmgmfajelaaPzW
import Derived.Test.YtpgjhmgmfajelaaPzV
import Derived.Deep.RegionHeld3
namespace Go.Proofs.Ytpgjhmgmfajelaa
open Go.RowKit Go.Deep
set_option linter.unusedVariables false

theorem withoutL_mem {cs : List Cl} {k : Nat} (x : Cl) (h : x ∈ withoutL cs k) : x ∈ cs := by
  unfold withoutL at h
  rw [List.mem_append] at h
  exact h.elim List.mem_of_mem_take List.mem_of_mem_drop
/-- The indices below k of clues without which there are as many solutions. -/
def needTo (h : Nat) (cs : List Cl) : Nat → List Int
  | 0 => []
  | k + 1 => needTo h cs k ++ (if cntL h (withoutL cs k) = cntL h cs then [(k : Int)] else [])
theorem needTo_len (h : Nat) (cs : List Cl) (k : Nat) : (needTo h cs k).length ≤ k := by
  induction k with
  | zero => simp [needTo]
  | succ k ih =>
    show (needTo h cs k ++ _).length ≤ _
    rw [List.length_append]
    split <;> simp <;> omega
def needL (u : Int) (cs : List Cl) : List Int := if pzOk u cs then needTo u.toNat cs cs.length else []
theorem needL_no {u : Int} {cs : List Cl} (h : pzOk u cs = false) : needL u cs = [] := by simp [needL, h]
theorem needL_yes {h : Nat} {cs : List Cl} (ho : pzOk (h : Int) cs = true) : needL h cs = needTo h cs cs.length := by simp [needL, ho]
theorem needL_len (u : Int) (cs : List Cl) (h : cs.length ≤ 1048576) : (needL u cs).length ≤ 1048576 := by
  unfold needL
  split
  · exact Nat.le_trans (needTo_len _ _ _) h
  · simp

set_option maxHeartbeats 8000000 in
set_option maxRecDepth 100000 in
/-- The model's NeedlessClues. -/
theorem specNeedlessClues_any (A : Option Addr) (n c B : Nat) (cs : List Cl) (u : Int) (w : World) (hr : Cls w B A n cs) (hB : B ≤ w.heap.size) (hn : n ≤ 17592186044416) (hc : n ≤ c) (hc2 : c ≤ maxLen) :
    Calls Try.prog 22 #[.agg #[.int .i64 u, .slice A n c]] w (MadeR (needL u cs) (pzOk u cs) w) := by
  obtain rfl := hr.len
  have b1 : Below w.heap.size w (w.alloc (.cells #[.int .i64 u, .slice A cs.length c] 40)) := (Below.refl _ _).alloc (Nat.le_refl _) _
  have HX := hide (Bx.new w 40 (.int .i64 u) (.slice A cs.length c))
  have HG := hide (pzGood_any A cs.length c B cs u _ (hr.below b1 hB) (Nat.le_trans hB b1.size) hn)
  have HB := hide b1
  clear b1
  cases hg : pzOk u cs
  · rw [hg] at HG
    rw [needL_no hg]
    clear hg
    go_enter Try.func22, Try.ntmps22
    go_wp2_with fail
    refine HG.out.mono ?_; rintro e w2 ⟨rfl, hb2⟩
    have HB2 := hide (HB.out.trans (hb2.mono HB.out.size))
    clear hb2
    go_wp2_with fail
    go_ret2
    exact ⟨none, 0, rfl, Nat.le_refl _, by unfold maxLen; omega, Own.nil _ _ _, HB2.out⟩
  · rw [hg] at HG
    obtain ⟨hh, h6, hck⟩ := pzOk_parts hg
    obtain ⟨h, rfl⟩ := Int.eq_ofNat_of_zero_le (show 0 ≤ u by omega)
    have HP := hide (fun W (hb : Below w.heap.size w W) => pzAll_any A cs.length c B cs h W (hr.below hb hB) (Nat.le_trans hB hb.size) (by omega) (by omega) (subs_of hck))
    have HPW := hide (fun (k : Nat) (hk : k < cs.length) A' c' W (hr : Cls W W.heap.size A' (withoutL cs k).length (withoutL cs k)) => pzAll_any A' (withoutL cs k).length c' W.heap.size (withoutL cs k) h W hr (Nat.le_refl _) (by rw [withoutL_length hk]; omega) (by omega) (subs_mem hck withoutL_mem))
    have HW := hide (fun (k : Nat) (hk : k < cs.length) W (hb : Below w.heap.size w W) => pzWithout_any A cs.length c B cs k W (hr.below hb hB) (Nat.le_trans hB hb.size) (by omega) hc hc2 hk)
    rw [needL_yes hg]
    have HN := hide (fun k => needTo_len h cs k)
    have HNs := hide (show ∀ k, needTo h cs (k + 1) = needTo h cs k ++ (if ((solsL (fitAll (withoutL cs k)) h).length : Int) = ((solsL (fitAll cs) h).length : Int) then [(k : Int)] else []) from fun _ => rfl)
    have HN0 := hide (show needTo h cs 0 = [] from rfl)
    generalize needTo h cs = ns at *
    generalize solsL (fitAll cs) h = zss at *
    clear hg hck hr
    go_enter Try.func22, Try.ntmps22
    go_wp2_with fail
    refine HG.out.mono ?_; rintro e w2 ⟨rfl, hb2⟩
    have HB2 := hide (HB.out.trans (hb2.mono HB.out.size))
    have HX2 := hide (HX.out.next hb2)
    have x0 := HX2.out.c0
    have x1 := HX2.out.c1
    clear hb2 HG
    go_wp2_with fail
    refine (HP.out _ HB2.out).mono ?_
    rintro e w3 ⟨A', c', vs, rfl, hc1', hc2', hown, hb3⟩
    have HB3 := hide (HB2.out.trans (hb3.mono HB2.out.size))
    have HX3 := hide (HX2.out.next hb3)
    clear hown hb3 x0 x1 HP hc1' hc2'
    have x1 := HX3.out.c1
    go_wp2_with fail
    clear x1
    go_loopw [4, 19] (fun v i wr => ∃ k : Nat, k ≤ cs.length ∧ i = .int .i64 k ∧ Hid (Own wr (w.heap.size + 1) 3 v (ns k)) ∧ Hid (Bx wr w.heap.size 40 (.int .i64 (h : Int)) (.slice A cs.length c)) ∧ Hid (Below w.heap.size w wr))
      (fun _ i _ => cs.length - (intOf i).toNat)
    case atStart => exact ⟨0, Nat.zero_le _, rfl, hide (by rw [HN0.out]; exact Own.nil _ _ _), HX3, HB3⟩
    case round =>
      obtain ⟨k, hk, rfl, ho, X, hb⟩ := hrel
      by_cases hlt : k < cs.length
      · have HWk := hide (fun W hb => HW.out k hlt W hb)
        have HPk := hide (fun A' c' W hr => HPW.out k hlt A' c' W hr)
        have HNk := hide (HNs.out k)
        have HNl := hide (HN.out k)
        generalize withoutL cs k = ds at *
        generalize ns k = l1 at *
        generalize solsL (fitAll ds) h = zs2 at *
        have x0 := X.out.c0
        have x1 := X.out.c1
        go_wp2_with fail
        go_region_held3 (fun W => W.cell? ⟨w.heap.size, 0, none⟩ = some (.int .i64 (h : Int)) ∧ W.cell? ⟨w.heap.size, 1, none⟩ = some (.slice A cs.length c))
          (first | exact ⟨X.out.c0, X.out.c1⟩ | exact ⟨(X.out.next HB6.out).c0, (X.out.next HB6.out).c1⟩ | exact ⟨(X.out.next HB5.out).c0, (X.out.next HB5.out).c1⟩ | go_keep)
          (first
          | (go_at_call 48; (with_reducible refine (HWk.out _ ?_).mono ?_); (exact hb.out.drew); rintro e w5 ⟨A5, c5, rfl, hc1, hc2, hown, hb5⟩; have HB5 : Hid (Below wr.heap.size wr w5) := hide ((Below.refl _ _).drew.trans hb5); have HL5 := hide hown.list; clear hown hb5 hc1 hc2)
          | (go_at_call 42; (with_reducible refine (HPk.out _ _ _ ?_).mono ?_); (exact HL5.out); rintro e w6 ⟨A6, c6, vs6, rfl, hc1, hc2, hown, hb6⟩; have HB6 : Hid (Below wr.heap.size wr w6) := hide (below_next HB5.out hb6); clear hown hb6 hc1 hc2))
        clear x0 x1 HL5 HB5
        have HX6 := hide (X.out.next HB6.out)
        have HO6 := hide (ho.out.below HB6.out)
        have HB7 := hide (below_next hb.out HB6.out)
        have hsz : w.heap.size + 1 ≤ w6.heap.size := by have := HX6.out.lt; omega
        have hown := HO6.out
        have hll : l1.length < 1000000 := by have := HNl.out; omega
        by_cases he : (zs2.length : Int) = (zss.length : Int)
        · rw [if_pos he] at HNk
          go_wp2_with (at_builtin; refine wpList_app_int rfl _ _ 24 3 rfl Try.underlying24 infoInt (w.heap.size + 1) _ _ rfl hown _ _ rfl hsz hll ?_; intro v' w' hown' hb')
          go_roundw
          case rel => exact ⟨k + 1, by omega, by go_num, hide (by rw [HNk.out]; exact hown'), hide (HX6.out.below hb' (by omega)), hide (HB7.out.trans (hb'.mono (by omega)))⟩
          case measure => simp [intOf]; omega
        · rw [if_neg he, List.append_nil] at HNk
          go_wp2_with (at_builtin; refine wpList_app_int rfl _ _ 24 3 rfl Try.underlying24 infoInt (w.heap.size + 1) _ _ rfl hown _ _ rfl hsz hll ?_; intro v' w' hown' hb')
          go_roundw
          case rel => exact ⟨k + 1, by omega, by go_num, hide (by rw [HNk.out]; exact hown), HX6, HB7⟩
          case measure => simp [intOf]; omega
      · obtain rfl : k = cs.length := by omega
        obtain ⟨A2, c2, rfl, hc1, hc2⟩ := ho.out.shape
        go_wp2_with fail
        go_ret2
        exact ⟨A2, c2, rfl, hc1, hc2, ho.out.less (by omega), hb.out⟩

set_option maxHeartbeats 8000000 in
set_option maxRecDepth 100000 in
/-- The program's NeedlessClues. -/
theorem NeedlessClues_any (A : Option Addr) (n c B : Nat) (cs : List Cl) (u : Int) (w : World) (hr : Cls w B A n cs) (hB : B ≤ w.heap.size) (hn : n ≤ 17592186044416) (hc : n ≤ c) (hc2 : c ≤ maxLen) :
    Calls Try.prog 23 #[.agg #[.int .i64 u, .slice A n c]] w (MadeR (needL u cs) (pzOk u cs) w) := by
  obtain rfl := hr.len
  have b1 : Below w.heap.size w (w.alloc (.cells #[.int .i64 u, .slice A cs.length c] 40)) := (Below.refl _ _).alloc (Nat.le_refl _) _
  have HX := hide (Bx.new w 40 (.int .i64 u) (.slice A cs.length c))
  have HG := hide (CountSolutions_any A cs.length c B cs u _ (hr.below b1 hB) (Nat.le_trans hB b1.size) hn)
  have HB := hide b1
  clear b1
  cases hg : pzOk u cs
  · rw [hg] at HG
    rw [needL_no hg]
    clear hg
    go_enter Try.func23, Try.ntmps23
    go_wp2_with fail
    refine HG.out.mono ?_; rintro e w2 ⟨rfl, hb2⟩
    have HB2 := hide (HB.out.trans (hb2.mono HB.out.size))
    clear hb2
    go_wp2_with fail
    go_ret2
    exact ⟨none, 0, rfl, Nat.le_refl _, by unfold maxLen; omega, Own.nil _ _ _, HB2.out⟩
  · rw [hg] at HG
    obtain ⟨hh, h6, hck⟩ := pzOk_parts hg
    obtain ⟨h, rfl⟩ := Int.eq_ofNat_of_zero_le (show 0 ≤ u by omega)
    rw [cntP_yes hg] at HG
    have HPW := hide (fun (k : Nat) (hk : k < cs.length) A' c' W (hr : Cls W W.heap.size A' (withoutL cs k).length (withoutL cs k)) => countSolutions_any A' (withoutL cs k).length c' W.heap.size (withoutL cs k) h W hr (Nat.le_refl _) (by rw [withoutL_length hk]; omega) (by omega) (subs_mem hck withoutL_mem))
    have HW := hide (fun (k : Nat) (hk : k < cs.length) W (hb : Below w.heap.size w W) => without_any A cs.length c B cs (h : Int) k W (hr.below hb hB) (Nat.le_trans hB hb.size) (by omega) hc hk)
    rw [needL_yes hg]
    have HN := hide (fun k => needTo_len h cs k)
    have HNs := hide (show ∀ k, needTo h cs (k + 1) = needTo h cs k ++ (if ((solsL (fitAll (withoutL cs k)) h).length : Int) = cntL h cs then [(k : Int)] else []) from fun _ => rfl)
    have HN0 := hide (show needTo h cs 0 = [] from rfl)
    generalize needTo h cs = ns at *
    generalize cntL h cs = zz at *
    clear hg hck hr
    go_enter Try.func23, Try.ntmps23
    go_wp2_with fail
    refine HG.out.mono ?_; rintro e w2 ⟨rfl, hb2⟩
    have HB3 := hide (HB.out.trans (hb2.mono HB.out.size))
    have HX3 := hide (HX.out.next hb2)
    have x1 := HX3.out.c1
    clear hb2 HG
    go_wp2_with fail
    clear x1
    go_loopw [6, 18] (fun v i wr => ∃ k : Nat, k ≤ cs.length ∧ i = .int .i64 k ∧ Hid (Own wr (w.heap.size + 1) 3 v (ns k)) ∧ Hid (Bx wr w.heap.size 40 (.int .i64 (h : Int)) (.slice A cs.length c)) ∧ Hid (Below w.heap.size w wr))
      (fun _ i _ => cs.length - (intOf i).toNat)
    case atStart => exact ⟨0, Nat.zero_le _, rfl, hide (by rw [HN0.out]; exact Own.nil _ _ _), HX3, HB3⟩
    case round =>
      obtain ⟨k, hk, rfl, ho, X, hb⟩ := hrel
      by_cases hlt : k < cs.length
      · have HWk := hide (fun W hb => HW.out k hlt W hb)
        have HPk := hide (fun A' c' W hr => HPW.out k hlt A' c' W hr)
        have HNk := hide (HNs.out k)
        have HNl := hide (HN.out k)
        generalize withoutL cs k = ds at *
        generalize ns k = l1 at *
        generalize solsL (fitAll ds) h = zs2 at *
        have x0 := X.out.c0
        have x1 := X.out.c1
        go_wp2_with fail
        refine (HWk.out _ hb.out).mono ?_
        rintro e w5 ⟨A5, c5, rfl, hc1, hc2, hown, hb5⟩
        have HL5 := hide hown.list
        have HB5 := hide hb5
        clear hown hb5 hc1 hc2 x0 x1
        go_wp2_with fail
        refine (HPk.out _ _ _ HL5.out).mono ?_
        rintro e w6 ⟨rfl, hb6⟩
        have HB6 := hide (below_next HB5.out hb6)
        clear hb6 HL5 HB5
        have HX6 := hide (X.out.next HB6.out)
        have HO6 := hide (ho.out.below HB6.out)
        have HB7 := hide (below_next hb.out HB6.out)
        have hsz : w.heap.size + 1 ≤ w6.heap.size := by have := HX6.out.lt; omega
        have hown := HO6.out
        have hll : l1.length < 1000000 := by have := HNl.out; omega
        by_cases he : (zs2.length : Int) = zz
        · rw [if_pos he] at HNk
          go_wp2_with (at_builtin; refine wpList_app_int rfl _ _ 24 3 rfl Try.underlying24 infoInt (w.heap.size + 1) _ _ rfl hown _ _ rfl hsz hll ?_; intro v' w' hown' hb')
          go_roundw
          case rel => exact ⟨k + 1, by omega, by go_num, hide (by rw [HNk.out]; exact hown'), hide (HX6.out.below hb' (by omega)), hide (HB7.out.trans (hb'.mono (by omega)))⟩
          case measure => simp [intOf]; omega
        · rw [if_neg he, List.append_nil] at HNk
          go_wp2_with (at_builtin; refine wpList_app_int rfl _ _ 24 3 rfl Try.underlying24 infoInt (w.heap.size + 1) _ _ rfl hown _ _ rfl hsz hll ?_; intro v' w' hown' hb')
          go_roundw
          case rel => exact ⟨k + 1, by omega, by go_num, hide (by rw [HNk.out]; exact hown), HX6, HB7⟩
          case measure => simp [intOf]; omega
      · obtain rfl : k = cs.length := by omega
        obtain ⟨A2, c2, rfl, hc1, hc2⟩ := ho.out.shape
        go_wp2_with fail
        go_ret2
        exact ⟨A2, c2, rfl, hc1, hc2, ho.out.less (by omega), hb.out⟩
end Go.Proofs.Ytpgjhmgmfajelaa
