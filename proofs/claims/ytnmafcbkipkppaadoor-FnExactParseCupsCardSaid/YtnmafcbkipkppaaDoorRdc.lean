
/-
  NUMBERS OF AT MOST TEN DIGITS READ BACK. (Printed by recr.py.)
-/
import Derived.Test.YtnmafcbkipkppaaDoorParM
import Derived.Test.YtnmafcbkipkppaaDoorParS
import Derived.Test.YtnmafcbkipkppaaDoorTextP
namespace Go.Proofs.YtnmafcbkipkppaaDoor
open Go.RowKit Go.Deep
set_option linter.unusedVariables false

def rdc (w : List UInt8) : Int := if (1 ≤ w.length ∧ w.length ≤ 10) ∧ ¬ (w.head? = some 48 ∧ 1 < w.length) then rdF 0 w else -1
theorem rdc_text {w : List UInt8} {v : Nat} (h : rdc w = v) : w = Lib.decDigits v := by
  unfold rdc at h
  split at h
  · rename_i hw
    match w, hw, h with
    | [], hw, _ => simp at hw
    | c :: r, hw, h =>
      unfold rdF at h
      split at h
      · rename_i hc
        match r, hw, h with
        | [], _, h =>
          simp only [rdF] at h
          have e : v = c.toNat - 48 := by omega
          rw [e, Lib.decDigits_one (by omega), byte_of c hc.1]
        | d :: r, hw, h =>
          have hne : c ≠ 48 := fun e => hw.2 ⟨by simp [e], by simp⟩
          have hpos : 0 < c.toNat - 48 := by
            rcases Nat.eq_zero_or_pos (c.toNat - 48) with h0 | h0
            · exact absurd (UInt8.toNat_inj.1 (show c.toNat = (48 : UInt8).toNat by rw [show (48 : UInt8).toNat = 48 from rfl]; omega)) hne
            · exact h0
          have h1 := rdF_digits (d :: r) (10 * 0 + (c.toNat - 48)) v (by omega) h
          rw [h1, show 10 * 0 + (c.toNat - 48) = c.toNat - 48 by omega, Lib.decDigits_one (by omega), byte_of c hc.1]
          rfl
      · omega
  · omega

/-- Both readings agree on numbers that are not too great. -/
theorem pn_of_rdc {w : List UInt8} {v : Nat} (hv : v < 10000000000) (h : rdc w = v) : pn w = some (v : Int) := by
  have ht := rdc_text h
  have hb := decDigits_byte 9 v (by omega)
  have hr : rdF 0 w = v := by
    unfold rdc at h
    split at h
    · exact h
    · omega
  have hp := rdF_parse w 0 v (by omega) hr
  rw [← ht] at hb
  have hne : w ≠ [] := by rw [ht]; exact decDigits_ne v
  have ha : Lib.atoiAll w = .ok (v : Int) := by
    match w, hne, hb, hp with
    | c :: r, _, hb, hp =>
      have hc := hb c List.mem_cons_self
      rw [Lib.atoiAll_plain c r (by omega) (by omega)]
      unfold Lib.parseMag
      rw [if_neg (by simp), hp]
      simp only [Lib.signless]
      rw [if_neg (by omega)]
  unfold pn
  rw [ha]
  simp only []
  rw [if_neg (by omega), if_pos]
  unfold Lib.itoa
  rw [if_neg (by omega), show ((v : Int)).toNat = v by omega, ← ht]
theorem rdc_of_pn {w : List UInt8} {n : Int} (hn : n < 10000000000) (h : pn w = some n) : 0 ≤ n ∧ rdc w = n := by
  unfold pn at h
  split at h
  · rename_i m ha
    split at h
    · cases h
    · split at h
      · rename_i h0 hi
        injection h with h
        subst h
        obtain ⟨v, rfl⟩ : ∃ v : Nat, m = v := ⟨m.toNat, by omega⟩
        refine ⟨by omega, ?_⟩
        unfold Lib.itoa at hi
        rw [if_neg (by omega), show ((v : Int)).toNat = v by omega] at hi
        have hb := decDigits_byte 9 v (by omega)
        have hl := decDigits_len 9 v (by omega)
        have hne := decDigits_ne v
        have hpos : 1 ≤ w.length := by
          rw [← hi, Lib.decDigits_length]; exact Lib.nDigits_pos v
        have hz : ¬ (w.head? = some 48 ∧ 1 < w.length) := by
          rintro ⟨h1, h2⟩
          rcases Nat.eq_zero_or_pos v with e | e
          · subst e
            rw [← hi, Lib.decDigits_one (by omega)] at h2
            simp at h2
          · rw [← hi] at h1
            exact decDigits_head 9 v (by omega) e h1
        rw [hi] at hb hl hne
        unfold rdc
        rw [if_pos ⟨⟨hpos, by omega⟩, hz⟩]
        match w, hne, hb, ha with
        | c :: r, _, hb, ha =>
          have hc := hb c List.mem_cons_self
          rw [Lib.atoiAll_plain c r (by omega) (by omega)] at ha
          unfold Lib.parseMag at ha
          rw [if_neg (by simp)] at ha
          cases hp : Lib.parseUint10 0 (c :: r) with
          | ok u =>
            rw [hp] at ha
            simp only [Lib.signless] at ha
            split at ha
            · cases ha
            · injection ha with ha
              have := parse_rdF _ _ _ hp
              rw [this]; omega
          | «syntax» => rw [hp] at ha; cases ha
          | range => rw [hp] at ha; cases ha
      · cases h
  · cases h

theorem pnAll_of_rdc : ∀ {ws : List (List UInt8)}, (∀ w ∈ ws, 0 ≤ rdc w ∧ rdc w < 10000000000) → pnAll ws = some (ws.map rdc)
  | [], _ => rfl
  | w :: ws, h => by
    have h1 := h w List.mem_cons_self
    have h2 := pnAll_of_rdc (fun x hx => h x (List.mem_cons_of_mem _ hx))
    have h3 := pn_of_rdc (w := w) (v := (rdc w).toNat) (by omega) (by omega)
    unfold pnAll
    rw [h3, h2]
    simp
    omega
theorem rdc_of_pnAll : ∀ {ws : List (List UInt8)} {ns : List Int}, pnAll ws = some ns → (∀ n ∈ ns, n < 10000000000) → ws.map rdc = ns
  | [], ns, h, _ => by simp [pnAll] at h; subst h; rfl
  | w :: ws, ns, h, hn => by
    unfold pnAll at h
    split at h
    · cases h
    · split at h
      · cases h
      · rename_i n hp _ ms hm
        injection h with h
        subst h
        rw [List.map_cons, (rdc_of_pn (hn n List.mem_cons_self) hp).2, rdc_of_pnAll hm (fun x hx => hn x (List.mem_cons_of_mem _ hx))]

theorem rdc_out {l : List UInt8} (h : ¬ (1 ≤ (l.length : Int) ∧ (l.length : Int) ≤ 10)) : rdc l = -1 := by
  unfold rdc
  rw [if_neg (fun hh => h ⟨by omega, by omega⟩)]
theorem rdc_zero {l : List UInt8} (h0 : 0 < l.length) (hb : ((l[0]'h0).toNat : Int) = 48) (h1 : 1 < l.length) : rdc l = -1 := by
  unfold rdc
  rw [if_neg]
  rintro ⟨_, h⟩
  refine h ⟨?_, h1⟩
  rw [List.head?_eq_getElem?, List.getElem?_eq_getElem h0]
  congr 1
  apply UInt8.toNat_inj.1
  rw [show (48 : UInt8).toNat = 48 from rfl]; omega
theorem rdc_in {l : List UInt8} (h0 : 0 < l.length) (h6 : l.length ≤ 10) (hb : ¬ (((l[0]'h0).toNat : Int) = 48 ∧ 1 < l.length)) : rdc l = rdF 0 l := by
  unfold rdc
  rw [if_pos]
  refine ⟨⟨by omega, h6⟩, ?_⟩
  rintro ⟨h1, h2⟩
  refine hb ⟨?_, h2⟩
  rw [List.head?_eq_getElem?, List.getElem?_eq_getElem h0] at h1
  have e := congrArg UInt8.toNat (Option.some.inj h1)
  rw [show (48 : UInt8).toNat = 48 from rfl] at e
  omega
set_option maxRecDepth 1000000 in
/-- The loop of the model's cuRead. -/
theorem cuRead_loop (l : List UInt8) (w : World) (h0 : 0 < l.length) (h6 : l.length ≤ 10) (hb : ¬ (((l[0]'h0).toNat : Int) = 48 ∧ 1 < l.length)) :
    Calls Tryd.prog 18 #[.string (bs l)] w fun e w' => e = .returned (.int .i64 (rdc l)) ∧ w = w' := by
  have HL := hide (str_len l)
  have HI := hide (str_at l)
  have HR := hide (rdc_in h0 h6 hb)
  have hd : decide ((1 : Int) ≤ (l.length : Int) ∧ (l.length : Int) ≤ 10) = true := by simp; omega
  have hi0 := HI.out 0 h0
  rw [show (((0 : Nat) : Int)) = 0 from rfl] at hi0
  have hl := HL.out
  have hu : (l[0]'h0).toNat < 256 := (l[0]'h0).toNat_lt
  rw [HR.out]
  generalize hs : bs l = s at *
  have Hb := hide hb
  generalize hx : (l[0]'h0).toNat = x0 at *
  clear hs hb
  by_cases e48 : (x0 : Int) = 48
  · have e1 : ¬ (1 < (l.length : Int)) := fun h => Hb.out ⟨e48, by omega⟩
    go_enter Tryd.func18, Tryd.ntmps18
    go_wp2_with (go_at_call 27; refine (l1In_any _ _ _ _).mono ?_; rintro e w' ⟨rfl, rfl⟩; rw [hd])
    go_loop [3, 4] (fun n i => ∃ k m : Nat, k ≤ l.length ∧ i = .int .i64 k ∧ n = .int .i64 m ∧ rdF 0 l = rdF m (l.drop k) ∧ m < 10 ^ k)
      (fun _ i => l.length - (intOf i).toNat)
    case atStart => exact ⟨0, 0, by omega, rfl, rfl, by simp, by simp⟩
    case round =>
      obtain ⟨k, m, hk, rfl, rfl, hrd, hm⟩ := hrel
      have HRD := hide hrd
      clear hrd
      by_cases hlt : k < l.length
      · have hik := HI.out k hlt
        have HX := hide (fun hd => rdF_step (m := m) hlt hd)
        have HY := hide (fun hd => rdF_bad (m := m) hlt hd)
        have hp : 10 ^ k ≤ 10 ^ 9 := Nat.pow_le_pow_right (by omega) (by omega)
        have hm5 : m < 1000000000 := by omega
        have HM := hide hm
        have hux : (l[k]'hlt).toNat < 256 := (l[k]'hlt).toNat_lt
        clear hp hm
        generalize (l[k]'hlt).toNat = x at *
        by_cases h1 : (x : Int) < 48
        · have HE := hide (show rdF 0 l = -1 from by rw [HRD.out]; exact HY.out (by omega))
          go_wp2_with fail
          go_ret
          exact ⟨by rw [HE.out]; rfl, rfl⟩
        · by_cases h2 : 57 < (x : Int)
          · have HE := hide (show rdF 0 l = -1 from by rw [HRD.out]; exact HY.out (by omega))
            go_wp2_with fail
            go_ret
            exact ⟨by rw [HE.out]; rfl, rfl⟩
          · have hsub : IntKind.u8.wrap ((x : Int) - 48) = (x : Int) - 48 := by simp [IntKind.wrap, IntKind.signed, IntKind.bits]; omega
            go_wp2_with fail
            go_round
            case rel =>
              refine ⟨k + 1, 10 * m + (x - 48), by omega, by go_num, ?_, by rw [HRD.out]; exact HX.out (by omega), by have := HM.out; rw [Nat.pow_succ]; omega⟩
              go_num
            case measure => simp [intOf]; omega
      · have HE := hide (show rdF 0 l = (m : Int) from by rw [HRD.out]; exact rdF_end (by omega))
        go_wp2_with fail
        go_ret
        exact ⟨by rw [HE.out]; rfl, rfl⟩
  · go_enter Tryd.func18, Tryd.ntmps18
    go_wp2_with (go_at_call 27; refine (l1In_any _ _ _ _).mono ?_; rintro e w' ⟨rfl, rfl⟩; rw [hd])
    go_loop [3, 4] (fun n i => ∃ k m : Nat, k ≤ l.length ∧ i = .int .i64 k ∧ n = .int .i64 m ∧ rdF 0 l = rdF m (l.drop k) ∧ m < 10 ^ k)
      (fun _ i => l.length - (intOf i).toNat)
    case atStart => exact ⟨0, 0, by omega, rfl, rfl, by simp, by simp⟩
    case round =>
      obtain ⟨k, m, hk, rfl, rfl, hrd, hm⟩ := hrel
      have HRD := hide hrd
      clear hrd
      by_cases hlt : k < l.length
      · have hik := HI.out k hlt
        have HX := hide (fun hd => rdF_step (m := m) hlt hd)
        have HY := hide (fun hd => rdF_bad (m := m) hlt hd)
        have hp : 10 ^ k ≤ 10 ^ 9 := Nat.pow_le_pow_right (by omega) (by omega)
        have hm5 : m < 1000000000 := by omega
        have HM := hide hm
        have hux : (l[k]'hlt).toNat < 256 := (l[k]'hlt).toNat_lt
        clear hp hm
        generalize (l[k]'hlt).toNat = x at *
        by_cases h1 : (x : Int) < 48
        · have HE := hide (show rdF 0 l = -1 from by rw [HRD.out]; exact HY.out (by omega))
          go_wp2_with fail
          go_ret
          exact ⟨by rw [HE.out]; rfl, rfl⟩
        · by_cases h2 : 57 < (x : Int)
          · have HE := hide (show rdF 0 l = -1 from by rw [HRD.out]; exact HY.out (by omega))
            go_wp2_with fail
            go_ret
            exact ⟨by rw [HE.out]; rfl, rfl⟩
          · have hsub : IntKind.u8.wrap ((x : Int) - 48) = (x : Int) - 48 := by simp [IntKind.wrap, IntKind.signed, IntKind.bits]; omega
            go_wp2_with fail
            go_round
            case rel =>
              refine ⟨k + 1, 10 * m + (x - 48), by omega, by go_num, ?_, by rw [HRD.out]; exact HX.out (by omega), by have := HM.out; rw [Nat.pow_succ]; omega⟩
              go_num
            case measure => simp [intOf]; omega
      · have HE := hide (show rdF 0 l = (m : Int) from by rw [HRD.out]; exact rdF_end (by omega))
        go_wp2_with fail
        go_ret
        exact ⟨by rw [HE.out]; rfl, rfl⟩

set_option maxRecDepth 1000000 in
/-- The model's cuRead. -/
theorem cuRead_any (l : List UInt8) (w : World) (hl : l.length ≤ 1099511627776) :
    Calls Tryd.prog 18 #[.string (bs l)] w fun e w' => e = .returned (.int .i64 (rdc l)) ∧ w = w' := by
  by_cases hin : 1 ≤ (l.length : Int) ∧ (l.length : Int) ≤ 10
  · have h0 : 0 < l.length := by omega
    by_cases hb : ((l[0]'h0).toNat : Int) = 48 ∧ 1 < l.length
    · have HR := hide (rdc_zero h0 hb.1 hb.2)
      have hi0 := str_at l 0 h0
      rw [show (((0 : Nat) : Int)) = 0 from rfl, hb.1] at hi0
      have hlen := str_len l
      have hd : decide ((1 : Int) ≤ (l.length : Int) ∧ (l.length : Int) ≤ 10) = true := by simp; omega
      have h1 : 1 < (l.length : Int) := by omega
      clear hb hin
      generalize bs l = s at *
      go_enter Tryd.func18, Tryd.ntmps18
      go_wp2_with (go_at_call 27; refine (l1In_any _ _ _ _).mono ?_; rintro e w' ⟨rfl, rfl⟩; rw [hd])
      go_ret
      exact ⟨by rw [HR.out]; rfl, rfl⟩
    · exact cuRead_loop l w h0 (by omega) hb
  · have HR := hide (rdc_out hin)
    have hlen := str_len l
    have hd : decide ((1 : Int) ≤ (l.length : Int) ∧ (l.length : Int) ≤ 10) = false := decide_eq_false hin
    clear hin
    generalize bs l = s at *
    go_enter Tryd.func18, Tryd.ntmps18
    go_wp2_with (go_at_call 27; refine (l1In_any _ _ _ _).mono ?_; rintro e w' ⟨rfl, rfl⟩; rw [hd])
    go_ret
    exact ⟨by rw [HR.out]; rfl, rfl⟩

theorem dtxt_rdc {a : List UInt8} (h : 0 ≤ rdc a) : dtxt (rdc a) = a := by
  obtain ⟨v, hv⟩ := Int.eq_ofNat_of_zero_le h
  have := rdc_text (w := a) (v := v) hv
  unfold dtxt
  rw [hv, Int.toNat_natCast]; exact this.symm
end Go.Proofs.YtnmafcbkipkppaaDoor
