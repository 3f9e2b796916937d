
/-
  GIVING JOBS OUT, THE PROGRAM's WAY: givenOut.
-/
import Derived.Test.YtbefffknedimhaaLdH
namespace Go.Proofs.Ytbefffknedimhaa
open Go.RowKit Go.Deep
set_option linter.unusedVariables false

set_option maxRecDepth 100000 in
/-- The program's givenOut. -/
theorem givenOut_any (A : Option Addr) (n c B : Nat) (zs : List Int) (m : Nat) (A' : Option Addr) (n' c' B' : Nat) (os : List Int) (w : World) (hr : Ints w B A n zs) (hs : Ints w B' A' n' os)
    (hB : B ≤ w.heap.size) (hB' : B' ≤ w.heap.size) (hg : jgood zs = true) (hm1 : 1 ≤ m) (hm2 : m ≤ 4) (ho : OrdOf zs.length os) :
    Calls Try.prog 20 #[.slice A n c, .int .i64 (m : Int), .slice A' n' c'] w (Made1 (giveP zs os m) w) := by
  obtain rfl := hr.len
  obtain rfl := hs.len
  obtain ⟨hl1, hl9, hwz⟩ := jgood_of hg
  have HZ := hide (jgood_get hg)
  have HO := hide ho.2
  have hol := ho.1
  have HL := hide (giveS_len zs os m)
  have HB := hide (giveS_bd os m (within_wide hwz (lo' := 0) (hi' := 1000) (by omega) (by omega)))
  have HP := hide (show giveP zs os m = (giveS zs os m os.length).1 from rfl)
  have hmk := run_make_row' (P := Try.prog) 22 3 (.int .i64 0) 8 Try.underlying22 infoInt rfl .i64 .i64 zs.length (by omega) (by omega)
  have hmk2 := run_make_row' (P := Try.prog) 22 3 (.int .i64 0) 8 Try.underlying22 infoInt rfl .i64 .i64 m (by omega) (by omega)
  have hmf : ∀ (fn : Fn) (first cap : Array Value) (w : World), (Instr.makeFunc fn first cap).run Try.prog w = .ok (.func fn first cap) w := fun _ _ _ _ => rfl
  clear ho hg hwz
  go_enter Try.func20, Try.ntmps20
  go_wp2_with fail
  go_loopw [19] (fun i wr => ∃ k : Nat, k ≤ os.length ∧ i = .int .i64 k ∧ Row wr w.heap.size 3 (giveS zs os m k).1 ∧ Row wr (w.heap.size + 1) 3 (giveS zs os m k).2 ∧
      One wr (w.heap.size + 1 + 1) 22 (.slice (some ⟨w.heap.size + 1, 0, none⟩) m m) ∧ Below w.heap.size w wr)
    (fun i _ => os.length - (intOf i).toNat)
  case atStart =>
    have r1 := Row.zeros w zs.length 3
    have r2 := Row.zeros (w.alloc (.cells (madeCells #[.int .i64 0] zs.length) 3)) m 3
    have o3 := One.made ((w.alloc (.cells (madeCells #[.int .i64 0] zs.length) 3)).alloc (.cells (madeCells #[.int .i64 0] m) 3)) 22 (.slice (some ⟨w.heap.size + 1, 0, none⟩) m m)
    have e1 : (w.alloc (.cells (madeCells #[.int .i64 0] zs.length) 3)).heap.size = w.heap.size + 1 := by simp
    have e2 : ((w.alloc (.cells (madeCells #[.int .i64 0] zs.length) 3)).alloc (.cells (madeCells #[.int .i64 0] m) 3)).heap.size = w.heap.size + 1 + 1 := by simp
    rw [e1] at r2
    rw [e2] at o3
    refine ⟨0, Nat.zero_le _, rfl, ?_, ?_, ?_, ?_⟩
    · exact (r1.new _).new _
    · exact r2.new _
    · exact o3
    · exact (((Below.refl _ _).alloc (Nat.le_refl _) _).alloc (by simp) _).alloc (by simp; omega) _
  case round =>
    obtain ⟨k, hk, rfl, hrp, hrl, hone, hb⟩ := hrel
    by_cases hlt : k < os.length
    · obtain ⟨jb, hj, hjn⟩ := HO.out k hlt
      obtain ⟨ad', rfl, hab', hcell'⟩ := (hs.below hb hB').at_ hlt
      rw [getD_at hlt, hj] at hcell'
      obtain ⟨ad, rfl, hab, hcj⟩ := (hr.below hb hB).at_ hjn
      rw [getD_at hjn] at hcj
      have hzj := HZ.out jb hjn
      have hll := HL.out k
      have HW := hide (HB.out k)
      have HST := hide (fun f p l h hf x y hx hy => giveS_step zs os m k jb f p l h (by rw [getD_at hlt]; exact hj) hf x y hx hy)
      obtain ⟨p, l, hpl⟩ : ∃ p l, giveS zs os m k = (p, l) := ⟨_, _, rfl⟩
      rw [hpl] at hrp hrl hll HW
      have HPL := hide hpl
      obtain ⟨hpn, hln⟩ := hll
      simp only at hrp hrl hpn hln HW
      clear hpl hj
      have HN := hide hln
      have hl0 : 0 < l.length := by omega
      have HF := hide (flAt_lt l hl0)
      have hfm : flAt l m < m := by have := HF.out m (by omega); omega
      generalize hf : flAt l m = f at *
      have hfl : f < l.length := by omega
      have hx := within_get HW.out f hfl
      have HYJ := hide (getD_at (l := zs) hjn)
      generalize zs[jb] = y at *
      have HX := hide (HST.out f p l HPL.out hf l[f] y (getD_at hfl) HYJ.out)
      have HRD := hide (show Reads wr (w.heap.size + 1 + 1) (w.heap.size + 1) m l from ⟨hone, hrl, hln⟩)
      have HFL := hide (fun (g c B : Nat) (W : World) (h : Reads W (w.heap.size + 1 + 1) (w.heap.size + 1) m l) (h2 : Ints W B (some ⟨g, 0, none⟩) m (rng m)) (h3 : m ≤ c) (h4 : c ≤ maxLen) => hf ▸ firstLeast_any g (w.heap.size + 1 + 1) (w.heap.size + 1) m c B l W h h2 hm1 hm2 h3 h4)
      have hc1 := hone.cell
      have HRP := hide hrp
      have HQ := hide hb
      have hsz := hb.size
      have hs1 := hone.lt
      have hs2 := hrl.lt
      have hcp : jb < p.length := by omega
      have HLX := hide (getD_at hfl)
      generalize l[f] = x at *
      clear hf hone hrl hrp hln hpn hb
      go_wp2_with fail
      refine (indicesOf_m _ _ _ _ (by omega)).mono ?_
      rintro e w1 ⟨g, ci, rfl, hg1, hg2, hci1, hci2, hI, hb1⟩
      have HR1 := hide (HRD.out.below hb1)
      go_wp2_with fail
      refine (HFL.out g ci _ w1 HR1.out hI hci1 hci2).mono ?_
      rintro e w2 ⟨rfl, nn, rfl⟩
      have HRA := hide (show Row (w1.drewN nn) w.heap.size 3 p from (HRP.out.below hb1 HRP.out.lt).drewN nn)
      have HRB := hide (show Row (w1.drewN nn) (w.heap.size + 1) 3 l from HR1.out.2.1)
      have HRC := hide (show One (w1.drewN nn) (w.heap.size + 1 + 1) 22 (.slice (some ⟨w.heap.size + 1, 0, none⟩) m m) from HR1.out.1)
      have HB1 := hide (show Below w.heap.size w (w1.drewN nn) from below_drewN (HQ.out.trans (hb1.mono hsz)) nn)
      have hcj1 : (w1.drewN nn).cell? (ad.add jb) = some (.int .i64 y) := (hb1.cell (p := ad.add jb) (by rw [block_of_add]; omega)).trans hcj
      generalize w1.drewN nn = W at *
      clear hcj hI hb1 hg1 hg2 hci1 hci2 hc1 HR1 HRD HFL hcell'
      have hff := HRB.out.free f
      have hfp := HRA.out.free jb
      have hpc := HRA.out.at_ hcp
      have hcf : W.cell? ⟨w.heap.size + 1, f, none⟩ = some (.int .i64 x) := by
        rw [← HLX.out]; exact HRB.out.atD hfl
      have hbx := HRC.out.cell
      have e1 : (W.setCell ⟨w.heap.size, jb, none⟩ (.int .i64 (f : Int))).cell? ⟨w.heap.size + 1 + 1, 0, none⟩ = some (.slice (some ⟨w.heap.size + 1, 0, none⟩) m m) := by
        rw [World.cell?_setCell_other _ _ _ _ (by simp)]; exact hbx
      have e2 : (W.setCell ⟨w.heap.size, jb, none⟩ (.int .i64 (f : Int))).cell? ⟨w.heap.size + 1, f, none⟩ = some (.int .i64 x) := by
        rw [World.cell?_setCell_other _ _ _ _ (by simp)]; exact hcf
      have f2 : (W.setCell ⟨w.heap.size, jb, none⟩ (.int .i64 (f : Int))).frozen? ⟨w.heap.size + 1, f, none⟩ = false :=
        ((HRB.out.past (a := ⟨w.heap.size, jb, none⟩) (by simp) _).free f)
      have e3 : (W.setCell ⟨w.heap.size, jb, none⟩ (.int .i64 (f : Int))).cell? (ad.add jb) = some (.int .i64 y) := by
        rw [World.cell?_setCell_other _ _ _ _ (by
          intro e
          have := congrArg Addr.block e
          rw [block_of_add] at this
          simp at this; omega)]; exact hcj1
      go_wp2_with fail
      go_region
      go_wp2_with fail
      go_roundw
      case rel =>
        have r1 : Row ((W.setCell ⟨w.heap.size, jb, none⟩ (.int .i64 (f : Int))).setCell ⟨w.heap.size + 1, f, none⟩ (.int .i64 (x + y))) w.heap.size 3 (p.set jb (f : Int)) := (HRA.out.put jb (f : Int)).past (by simp) _
        have r2 : Row ((W.setCell ⟨w.heap.size, jb, none⟩ (.int .i64 (f : Int))).setCell ⟨w.heap.size + 1, f, none⟩ (.int .i64 (x + y))) (w.heap.size + 1) 3 (l.set f (x + y)) := (HRB.out.past (by simp) _).put f _
        refine ⟨k + 1, by omega, by go_num, ?_, ?_, (HRC.out.past (by simp <;> omega) _).past (by simp <;> omega) _, ((HB1.out.setCell (Nat.le_refl _) _).setCell (by simp) _).drew⟩
        · rw [HX.out]; exact r1
        · rw [HX.out]; exact r2
      case measure => simp [intOf]; omega
    · obtain rfl : k = os.length := by omega
      go_wp2_with fail
      go_ret
      rw [HP.out]
      exact made1_row (HL.out _).1 hrp (Nat.le_refl _) hb (by omega)
end Go.Proofs.Ytbefffknedimhaa
