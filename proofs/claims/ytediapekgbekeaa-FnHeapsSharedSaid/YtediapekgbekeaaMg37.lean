import Derived.Test.YtediapekgbekeaaMg09
import Derived.Test.YtediapekgbekeaaMg30
import Derived.Test.YtediapekgbekeaaMg31
import Derived.Test.YtediapekgbekeaaMg32
import Derived.Test.YtediapekgbekeaaMg33
import Derived.Test.YtediapekgbekeaaMg34
import Derived.Test.YtediapekgbekeaaMg35
import Derived.Test.YtediapekgbekeaaMg36
import Derived.Test.YtediapekgbekeaaMg07
import Derived.Test.YtediapekgbekeaaMg02

/-
  FnHeapsShared: small facts for its parts.
-/
namespace Go.Proofs.Ytediapekgbekeaa
open Go.RowKit Go.Deep
set_option linter.unusedVariables false

theorem mos_mvs {w : World} {B n : Nat} {A : Option Addr} {ms : List Mo} (h : Mos w B A n ms) : Mvs w B A n (ms.map asMv) := by
  refine ⟨by rw [List.length_map]; exact h.1, fun hn => ?_⟩
  obtain ⟨b, off, e, hb, hc⟩ := h.2 hn
  refine ⟨b, off, e, hb, fun i hi => ?_⟩
  rw [hc i hi]
  have hl := h.1
  have hk : i / 3 < ms.length := by omega
  unfold cellMo numMo cellM
  simp only [List.getD, List.getElem?_map, List.getElem?_eq_getElem hk, Option.map_some, Option.getD_some]
  generalize i % 3 = r
  match r with
  | 0 => rfl
  | 1 => rfl
  | r + 2 => rfl
theorem carried_take (ms : List Mo) (k : Nat) (hk : k < ms.length) : carried (ms.take (k + 1)) = carried (ms.take k) + ms[k].x2 := by
  rw [List.take_succ_eq_append_getElem hk, carried_append]; simp [carried]
theorem fewOk_no {zs : List Int} (h : eqOk zs = false) : fewOk zs = false := by unfold fewOk; rw [h]; rfl
theorem fewOk_at {zs : List Int} (h : eqOk zs = true) : fewOk zs = decide (zs.length ≤ 8) := by unfold fewOk; rw [h]; rfl
theorem neq_same (x : Int) : (x != x) = false := by simp

end Go.Proofs.Ytediapekgbekeaa

/-
  FnHeapsShared: the flows.
-/
namespace Go.Proofs.Ytediapekgbekeaa
open Go.RowKit Go.Deep
set_option linter.unusedVariables false

set_option maxRecDepth 100000 in
set_option maxHeartbeats 100000000 in
theorem HzC3 (w W : World) (Kx : Act → World → Prop) (hKx : ∀ a w', Code.wp Try.prog (tailN 23 bodyHS) (bodyPost Try.prog Try.f3 (fun e w' => e = .returned (.bool true) ∧ Below w.heap.size w w')) a w' → Kx a w') (zs fl rf : List Int) (sh : Int) (hg1 : 1 ≤ zs.length) (hg2 : zs.length ≤ 12) (HFS : Hid (∀ k, k < zs.length → tot ((over zs).take (k + 1)) = tot ((over zs).take k) + (zs.getD k 0 - sh))) (HFH : Hid (∀ k, k < zs.length - 1 → fl.getD k 0 = tot ((over zs).take (k + 1)))) (HRB : Hid (∀ k, k < zs.length → rf.getD k 0 - rf.getD (back zs.length k) 0 = zs.getD k 0 - sh)) (HTB : Hid (∀ k, -144000 ≤ tot ((over zs).take k) ∧ tot ((over zs).take k) ≤ 12000)) (HGX : Hid (∀ k, k < zs.length → 0 ≤ zs.getD k 0 ∧ zs.getD k 0 ≤ 1000)) (HGR : Hid (∀ k, k < zs.length → -1000000000 ≤ rf.getD k 0 ∧ rf.getD k 0 ≤ 1000000000)) (hfl1 : Hid (fl.length = zs.length - 1)) (hrl1 : Hid (rf.length = zs.length)) (hsb : 0 ≤ sh ∧ sh ≤ 1000) (Az : Option Addr) (cz : Nat) (hIAz : Hid (Ints W W.heap.size Az zs.length zs)) (hcz : zs.length ≤ cz) (hczm : cz ≤ maxLen) (Af : Option Addr) (cf : Nat) (hIAf : Hid (Ints W W.heap.size Af fl.length fl)) (hcf : fl.length ≤ cf) (hcfm : cf ≤ maxLen) (Ar : Option Addr) (cr : Nat) (hIAr : Hid (Ints W W.heap.size Ar rf.length rf)) (hcr : rf.length ≤ cr) (hcrm : cr ≤ maxLen) (hB : Hid (Below w.heap.size w W)) (fr0 fr1 fr2 fr3 fr4 fr6 fr7 fr8 fr9 fr10 fr11 fr12 fr13 fr14 fr15 fr16 fr17 fr18 fr19 fr20 fr21 fr23 fr24 fr25 fr26 fr27 fr28 fr29 fr31 fr32 fr33 fr34 fr35 fr36 fr37 fr38 fr39 fr40 fr41 fr42 fr43 fr44 fr45 fr47 fr48 fr49 fr50 fr51 fr52 fr53 fr54 fr55 fr56 fr57 fr58 fr59 fr60 fr61 fr62 fr63 fr64 fr65 fr66 fr67 fr68 fr69 fr70 fr71 fr72 fr73 fr74 fr75 fr76 fr77 fr78 fr79 fr80 fr81 fr82 fr83 fr84 fr85 fr86 fr87 fr88 fr89 fr90 fr91 fr92 fr93 fr94 fr95 fr96 fr97 fr98 fr99 fr100 fr101 fr102 fr103 fr104 fr105 fr106 fr107 fr108 fr109 fr110 fr111 fr112 fr113 fr114 fr115 fr116 fr117 fr118 fr119 fr120 fr121 fr122 fr123 fr124 fr125 fr126 fr127 fr128 fr129 fr130 fr131 fr132 fr133 fr134 fr135 fr136 fr137 fr138 fr139 fr140 fr141 fr142 fr143 fr144 fr145 fr146 fr147 fr148 fr149 fr150 fr151 fr152 fr153 fr154 fr155 fr156 fr157 fr158 fr159 fr160 fr161 fr162 fr163 fr164 fr165 fr166 fr167 fr168 fr169 fr170 fr171 fr172 fr173 fr174 fr175 fr176 fr177 fr178 fr179 fr180 fr181 fr182 fr183 fr184 fr185 fr186 fr187 fr188 fr189 fr190 fr191 fr192 fr193 fr194 fr195 fr196 fr197 fr198 fr199 fr200 fr201 fr202 fr203 fr204 fr205 fr206 fr207 fr208 fr209 fr210 fr211 fr212 fr213 fr214 fr215 fr216 fr217 fr218 fr219 fr220 fr221 fr222 fr223 fr224 fr225 fr226 fr227 fr228 fr229 fr230 fr231 fr232 fr233 fr234 fr235 fr236 fr237 fr238 fr239 fr240 fr241 fr242 fr243 fr244 fr245 fr246 fr247 fr248 fr249 fr250 fr251 fr252 fr253 fr254 fr255 fr256 fr257 fr258 fr259 fr260 fr261 fr262 fr263 fr264 fr265 fr266 fr267 fr268 fr269 fr270 fr271 fr272 fr273 fr274 fr275 fr276 fr277 fr278 fr279 fr280 fr281 fr282 fr283 fr284 fr285 fr286 fr287 fr288 fr289 fr290 fr291 fr292 fr293 fr294 fr295 fr296 fr297 fr298 fr299 fr300 fr301 fr302 fr303 fr304 fr305 fr306 fr307 fr308 fr309 fr310 fr311 fr312 fr313 fr314 fr315 fr316 fr317 fr318 fr319 fr320 fr321 fr322 fr323 fr324 fr325 fr326 fr327 fr328 fr329 fr330 fr331 fr332 fr333 fr334 fr335 fr336 fr337 fr338 fr339 fr340 fr341 fr342 fr343 fr344 fr345 fr346 fr347 fr348 fr349 fr350 fr351 fr352 fr353 fr354 fr355 fr356 fr357 fr358 fr359 fr360 fr361 fr362 fr363 fr364 fr365 fr366 fr367 fr368 fr369 fr370 fr371 fr372 fr373 fr374 fr375 fr376 fr377 fr378 fr379 fr380 fr381 fr382 fr383 fr384 fr385 fr386 fr387 fr388 fr389 fr390 fr391 fr392 fr393 fr394 fr395 fr396 fr397 fr398 fr399 fr400 fr401 fr402 fr403 fr404 fr405 fr406 fr407 fr408 fr409 fr410 fr411 fr412 fr413 fr414 fr415 fr416 fr417 fr418 fr419 fr420 fr421 fr422 fr423 fr424 fr425 fr426 fr427 fr428 fr429 fr430 fr431 fr432 fr433 fr434 fr435 fr436 fr437 fr438 fr439 fr440 fr441 fr442 fr443 fr444 fr445 fr446 fr447 fr448 fr449 fr450 fr451 fr452 fr453 fr454 fr455 fr456 fr457 fr458 fr459 fr460 fr461 fr462 fr463 fr464 fr465 fr466 fr467 fr468 fr469 fr470 fr471 fr472 fr473 fr474 fr475 fr476 fr477 fr478 fr479 fr480 fr481 fr482 fr483 fr484 fr485 fr486 fr487 fr488 fr489 fr490 fr491 fr492 fr493 fr494 fr495 fr496 : Value) :
    Code.wp Try.prog (tailN 7 innerHS) (Exit.then Kx (bodyPost Try.prog Try.f3 (fun e w' => e = .returned (.bool true) ∧ Below w.heap.size w w'))) ⟨#[fr0, fr1, fr2, fr3, fr4, Value.slice Az zs.length cz, fr6, fr7, fr8, fr9, fr10, fr11, fr12, fr13, fr14, fr15, fr16, fr17, fr18, fr19, fr20, fr21, Value.slice Af fl.length cf, fr23, fr24, fr25, fr26, fr27, fr28, fr29, Value.slice Ar rf.length cr, fr31, fr32, fr33, fr34, fr35, fr36, fr37, fr38, fr39, fr40, fr41, fr42, fr43, fr44, fr45, Value.int .i64 sh, fr47, fr48, fr49, fr50, fr51, fr52, fr53, fr54, fr55, fr56, fr57, fr58, fr59, fr60, fr61, fr62, fr63, fr64, fr65, fr66, fr67, fr68, fr69, fr70, fr71, fr72, fr73, fr74, fr75, fr76, fr77, fr78, fr79, fr80, fr81, fr82, fr83, fr84, fr85, fr86, fr87, fr88, fr89, fr90, fr91, fr92, fr93, fr94, fr95, fr96, fr97, fr98, fr99, fr100, fr101, fr102, fr103, fr104, fr105, fr106, fr107, fr108, fr109, fr110, fr111, fr112, fr113, fr114, fr115, fr116, fr117, fr118, fr119, fr120, fr121, fr122, fr123, fr124, fr125, fr126, fr127, fr128, fr129, fr130, fr131, fr132, fr133, fr134, fr135, fr136, fr137, fr138, fr139, fr140, fr141, fr142, fr143, fr144, fr145, fr146, fr147, fr148, fr149, fr150, fr151, fr152, fr153, fr154, fr155, fr156, fr157, fr158, fr159, fr160, fr161, fr162, fr163, fr164, fr165, fr166, fr167, fr168, fr169, fr170, fr171, fr172, fr173, fr174, fr175, fr176, fr177, fr178, fr179, fr180, fr181, fr182, fr183, fr184, fr185, fr186, fr187, fr188, fr189, fr190, fr191, fr192, fr193, fr194, fr195, fr196, fr197, fr198, fr199, fr200, fr201, fr202, fr203, fr204, fr205, fr206, fr207, fr208, fr209, fr210, fr211, fr212, fr213, fr214, fr215, fr216, fr217, fr218, fr219, fr220, fr221, fr222, fr223, fr224, fr225, fr226, fr227, fr228, fr229, fr230, fr231, fr232, fr233, fr234, fr235, fr236, fr237, fr238, fr239, fr240, fr241, fr242, fr243, fr244, fr245, fr246, fr247, fr248, fr249, fr250, fr251, fr252, fr253, fr254, fr255, fr256, fr257, fr258, fr259, fr260, fr261, fr262, fr263, fr264, fr265, fr266, fr267, fr268, fr269, fr270, fr271, fr272, fr273, fr274, fr275, fr276, fr277, fr278, fr279, fr280, fr281, fr282, fr283, fr284, fr285, fr286, fr287, fr288, fr289, fr290, fr291, fr292, fr293, fr294, fr295, fr296, fr297, fr298, fr299, fr300, fr301, fr302, fr303, fr304, fr305, fr306, fr307, fr308, fr309, fr310, fr311, fr312, fr313, fr314, fr315, fr316, fr317, fr318, fr319, fr320, fr321, fr322, fr323, fr324, fr325, fr326, fr327, fr328, fr329, fr330, fr331, fr332, fr333, fr334, fr335, fr336, fr337, fr338, fr339, fr340, fr341, fr342, fr343, fr344, fr345, fr346, fr347, fr348, fr349, fr350, fr351, fr352, fr353, fr354, fr355, fr356, fr357, fr358, fr359, fr360, fr361, fr362, fr363, fr364, fr365, fr366, fr367, fr368, fr369, fr370, fr371, fr372, fr373, fr374, fr375, fr376, fr377, fr378, fr379, fr380, fr381, fr382, fr383, fr384, fr385, fr386, fr387, fr388, fr389, fr390, fr391, fr392, fr393, fr394, fr395, fr396, fr397, fr398, fr399, fr400, fr401, fr402, fr403, fr404, fr405, fr406, fr407, fr408, fr409, fr410, fr411, fr412, fr413, fr414, fr415, fr416, fr417, fr418, fr419, fr420, fr421, fr422, fr423, fr424, fr425, fr426, fr427, fr428, fr429, fr430, fr431, fr432, fr433, fr434, fr435, fr436, fr437, fr438, fr439, fr440, fr441, fr442, fr443, fr444, fr445, fr446, fr447, fr448, fr449, fr450, fr451, fr452, fr453, fr454, fr455, fr456, fr457, fr458, fr459, fr460, fr461, fr462, fr463, fr464, fr465, fr466, fr467, fr468, fr469, fr470, fr471, fr472, fr473, fr474, fr475, fr476, fr477, fr478, fr479, fr480, fr481, fr482, fr483, fr484, fr485, fr486, fr487, fr488, fr489, fr490, fr491, fr492, fr493, fr494, fr495, fr496], []⟩ W := by
  have HKx := hide hKx
  clear hKx
  conv => arg 2; whnf
  have hn1 : zs.length = 1 ∨ 1 < (zs.length : Int) := by omega
  rcases hn1 with hn1 | hn1
  · have hone : ¬ (1 < (zs.length : Int)) := by omega
    clear hn1
    go_wp2_with fail
    go_loopw [54, 450] (fun v i W' => ∃ k : Nat, k ≤ zs.length ∧ i = .int .i64 k ∧ v = .int .i64 (tot ((over zs).take k)) ∧ W' = W)
      (fun _ i _ => zs.length - (intOf i).toNat)
    case atStart => exact ⟨0, Nat.zero_le _, rfl, by simp [tot], rfl⟩
    case round =>
      obtain ⟨k, hk, rfl, rfl, hW⟩ := hrel
      replace hW := hW.symm
      subst hW
      by_cases hlt2 : k < zs.length
      · obtain ⟨adz, rfl, _, hcz⟩ := hIAz.out.at_ hlt2
        have hxb := HGX.out k hlt2
        have ht0 := HTB.out k
        have ht1 := HTB.out (k + 1)
        have HS := hide (HFS.out k hlt2)
        rw [HS.out] at ht1
        have hkz : (k : Int) < (zs.length : Int) := by omega
        by_cases hl : k < zs.length - 1
        · exact absurd hl (by omega)
        · have hkf : ¬ (k : Int) < (fl.length : Int) := by have := hfl1.out; omega
          generalize tot ((over zs).take k) = t at *
          generalize zs.getD k 0 = z at *
          have htt := neq_same (t + (z - sh))
          have hzz := neq_same (z - sh)
          go_wp2_with fail
          skip
          go_roundw
          case rel => exact ⟨k + 1, by omega, by go_num, by rw [HS.out], by trivial⟩
          case measure => simp [intOf]; omega
      · have hkz : ¬ (k : Int) < (zs.length : Int) := by omega
        go_wp2_with fail
        refine HKx.out _ _ ?_
        conv => arg 2; whnf
        go_wp2_with fail
        go_ret
        exact ⟨rfl, hB.out⟩
  · skip
    go_wp2_with fail
    go_loopw [54, 450] (fun v i W' => ∃ k : Nat, k ≤ zs.length ∧ i = .int .i64 k ∧ v = .int .i64 (tot ((over zs).take k)) ∧ W' = W)
      (fun _ i _ => zs.length - (intOf i).toNat)
    case atStart => exact ⟨0, Nat.zero_le _, rfl, by simp [tot], rfl⟩
    case round =>
      obtain ⟨k, hk, rfl, rfl, hW⟩ := hrel
      replace hW := hW.symm
      subst hW
      by_cases hlt2 : k < zs.length
      · obtain ⟨adz, rfl, _, hcz⟩ := hIAz.out.at_ hlt2
        have hxb := HGX.out k hlt2
        have ht0 := HTB.out k
        have ht1 := HTB.out (k + 1)
        have HS := hide (HFS.out k hlt2)
        rw [HS.out] at ht1
        have hkz : (k : Int) < (zs.length : Int) := by omega
        have hbk := back_lt hlt2
        have hbe := (back_eq hlt2).1
        have hbt := (back_eq hlt2).2
        have hra := HGR.out k hlt2
        have hrb := HGR.out _ hbk
        have hrd := HRB.out k hlt2
        obtain ⟨adr, rfl, _, hcr⟩ := hIAr.out.at_ (show k < rf.length by have := hrl1.out; omega)
        have hcr2 := hIAr.out.cellAt (show back zs.length k < rf.length by have := hrl1.out; omega)
        have hkr : (k : Int) < (rf.length : Int) := by have := hrl1.out; omega
        have hbr : ((back zs.length k : Nat) : Int) < (rf.length : Int) := by have := hrl1.out; omega
        generalize back zs.length k = kb at *
        generalize rf.getD k 0 = ra at *
        generalize rf.getD kb 0 = rb at *
        by_cases hl : k < zs.length - 1
        · obtain ⟨adf, rfl, _, hcf⟩ := hIAf.out.at_ (show k < fl.length by have := hfl1.out; omega)
          have hff := HFH.out k hl
          rw [hff, HS.out] at hcf
          have hkf : (k : Int) < (fl.length : Int) := by have := hfl1.out; omega
          generalize tot ((over zs).take k) = t at *
          generalize zs.getD k 0 = z at *
          have htt := neq_same (t + (z - sh))
          have hzz := neq_same (z - sh)
          have hrz : (ra - rb != z - sh) = false := by rw [hrd]; exact hzz
          go_wp2_with fail
          skip
          go_roundw
          case rel => exact ⟨k + 1, by omega, by go_num, by rw [HS.out], by trivial⟩
          case measure => simp [intOf]; omega
        · have hkf : ¬ (k : Int) < (fl.length : Int) := by have := hfl1.out; omega
          generalize tot ((over zs).take k) = t at *
          generalize zs.getD k 0 = z at *
          have htt := neq_same (t + (z - sh))
          have hzz := neq_same (z - sh)
          have hrz : (ra - rb != z - sh) = false := by rw [hrd]; exact hzz
          go_wp2_with fail
          skip
          go_roundw
          case rel => exact ⟨k + 1, by omega, by go_num, by rw [HS.out], by trivial⟩
          case measure => simp [intOf]; omega
      · have hkz : ¬ (k : Int) < (zs.length : Int) := by omega
        go_wp2_with fail
        refine HKx.out _ _ ?_
        conv => arg 2; whnf
        go_wp2_with fail
        go_ret
        exact ⟨rfl, hB.out⟩
end Go.Proofs.Ytediapekgbekeaa

/-
  FnHeapsShared: the second condition.
-/
namespace Go.Proofs.Ytediapekgbekeaa
open Go.RowKit Go.Deep
set_option linter.unusedVariables false

set_option maxRecDepth 100000 in
set_option maxHeartbeats 100000000 in
theorem HzC2a (w W : World) (Kx : Act → World → Prop) (hKx : ∀ a w', Code.wp Try.prog (tailN 23 bodyHS) (bodyPost Try.prog Try.f3 (fun e w' => e = .returned (.bool true) ∧ Below w.heap.size w w')) a w' → Kx a w') (zs fl rf : List Int) (sh : Int) (hg1 : 1 ≤ zs.length) (hg2 : zs.length ≤ 12) (HFS : Hid (∀ k, k < zs.length → tot ((over zs).take (k + 1)) = tot ((over zs).take k) + (zs.getD k 0 - sh))) (HFH : Hid (∀ k, k < zs.length - 1 → fl.getD k 0 = tot ((over zs).take (k + 1)))) (HRB : Hid (∀ k, k < zs.length → rf.getD k 0 - rf.getD (back zs.length k) 0 = zs.getD k 0 - sh)) (HTB : Hid (∀ k, -144000 ≤ tot ((over zs).take k) ∧ tot ((over zs).take k) ≤ 12000)) (HGX : Hid (∀ k, k < zs.length → 0 ≤ zs.getD k 0 ∧ zs.getD k 0 ≤ 1000)) (HGR : Hid (∀ k, k < zs.length → -1000000000 ≤ rf.getD k 0 ∧ rf.getD k 0 ≤ 1000000000)) (hfl1 : Hid (fl.length = zs.length - 1)) (hrl1 : Hid (rf.length = zs.length)) (hsb : 0 ≤ sh ∧ sh ≤ 1000) (AM : Option Addr) (ml cM : Nat) (gn fw L rd mo co : Int) (s1 : ml < zs.length) (q1 : 0 ≤ fw) (q2 : fw ≤ ml) (h8 : (zs.length : Int) ≤ 8) (hone : ¬ (1 < (zs.length : Int))) (s3 : L ≤ co) (s4 : gn ≤ L) (s5 : rd ≤ L) (s6 : gn ≤ rd) (s7 : mo ≤ L) (hcb : 0 ≤ co ∧ co ≤ 11000 * (ml : Int)) (HFW : Hid (within (-1000000000) 1000000000 fl = true)) (HRW : Hid (within (-1000000000) 1000000000 rf = true)) (hHL : Hid (sizes fl = L)) (hHR : Hid (sizes rf = rd)) (Az : Option Addr) (cz : Nat) (hIAz : Hid (Ints W W.heap.size Az zs.length zs)) (hcz : zs.length ≤ cz) (hczm : cz ≤ maxLen) (Af : Option Addr) (cf : Nat) (hIAf : Hid (Ints W W.heap.size Af fl.length fl)) (hcf : fl.length ≤ cf) (hcfm : cf ≤ maxLen) (Ar : Option Addr) (cr : Nat) (hIAr : Hid (Ints W W.heap.size Ar rf.length rf)) (hcr : rf.length ≤ cr) (hcrm : cr ≤ maxLen) (hB : Hid (Below w.heap.size w W)) (fr0 fr1 fr2 fr3 fr4 fr7 fr8 fr9 fr11 fr12 fr13 fr16 fr17 fr19 fr20 fr21 fr23 fr24 fr25 fr27 fr28 fr29 fr31 fr32 fr33 fr35 fr36 fr37 fr38 fr39 fr40 fr41 fr42 fr52 fr53 fr54 fr55 fr56 fr57 fr58 fr59 fr60 fr61 fr62 fr63 fr64 fr65 fr66 fr67 fr68 fr69 fr70 fr71 fr72 fr73 fr74 fr75 fr76 fr77 fr78 fr79 fr80 fr81 fr82 fr83 fr84 fr85 fr86 fr87 fr88 fr89 fr90 fr91 fr92 fr93 fr94 fr95 fr96 fr97 fr98 fr99 fr100 fr101 fr102 fr103 fr104 fr105 fr106 fr107 fr108 fr109 fr110 fr111 fr112 fr113 fr114 fr115 fr116 fr117 fr118 fr119 fr120 fr121 fr122 fr123 fr124 fr125 fr126 fr127 fr128 fr129 fr130 fr131 fr132 fr133 fr134 fr135 fr136 fr137 fr138 fr139 fr140 fr141 fr142 fr143 fr144 fr145 fr146 fr147 fr148 fr149 fr150 fr151 fr152 fr153 fr154 fr155 fr156 fr157 fr158 fr159 fr160 fr161 fr162 fr163 fr164 fr165 fr166 fr167 fr168 fr169 fr170 fr171 fr172 fr173 fr174 fr175 fr176 fr177 fr178 fr179 fr180 fr181 fr182 fr183 fr184 fr185 fr186 fr187 fr188 fr189 fr190 fr191 fr192 fr193 fr194 fr195 fr196 fr197 fr198 fr199 fr200 fr201 fr202 fr203 fr204 fr205 fr206 fr207 fr208 fr209 fr210 fr211 fr212 fr213 fr214 fr215 fr216 fr217 fr218 fr219 fr220 fr221 fr222 fr223 fr224 fr225 fr226 fr227 fr228 fr229 fr230 fr231 fr232 fr233 fr234 fr235 fr236 fr237 fr238 fr239 fr240 fr241 fr242 fr243 fr244 fr245 fr246 fr247 fr248 fr249 fr250 fr251 fr252 fr253 fr254 fr255 fr256 fr257 fr258 fr259 fr260 fr261 fr262 fr263 fr264 fr265 fr266 fr267 fr268 fr269 fr270 fr271 fr272 fr273 fr274 fr275 fr276 fr277 fr278 fr279 fr280 fr281 fr282 fr283 fr284 fr285 fr286 fr287 fr288 fr289 fr290 fr291 fr292 fr293 fr294 fr295 fr296 fr297 fr298 fr299 fr300 fr301 fr302 fr303 fr304 fr305 fr306 fr307 fr308 fr309 fr310 fr311 fr312 fr313 fr314 fr315 fr316 fr317 fr318 fr319 fr320 fr321 fr322 fr323 fr324 fr325 fr326 fr327 fr328 fr329 fr330 fr331 fr332 fr333 fr334 fr335 fr336 fr337 fr338 fr448 fr449 fr450 fr451 fr452 fr453 fr454 fr455 fr456 fr457 fr458 fr459 fr460 fr461 fr462 fr463 fr464 fr465 fr466 fr467 fr468 fr469 fr470 fr471 fr472 fr473 fr474 fr475 fr476 fr477 fr478 fr479 fr480 fr481 fr482 fr483 fr484 fr485 fr486 fr487 fr488 fr489 fr490 fr491 fr492 fr493 fr494 fr495 fr496 : Value) :
    Code.wp Try.prog (tailN 6 innerHS) (Exit.then Kx (bodyPost Try.prog Try.f3 (fun e w' => e = .returned (.bool true) ∧ Below w.heap.size w w'))) ⟨#[fr0, fr1, fr2, fr3, fr4, Value.slice Az zs.length cz, Value.slice AM ml cM, fr7, fr8, fr9, Value.int .i64 gn, fr11, fr12, fr13, Value.int .i64 fw, Value.bool true, fr16, fr17, Value.int .i64 L, fr19, fr20, fr21, Value.slice Af fl.length cf, fr23, fr24, fr25, Value.int .i64 rd, fr27, fr28, fr29, Value.slice Ar rf.length cr, fr31, fr32, fr33, Value.int .i64 mo, fr35, fr36, fr37, fr38, fr39, fr40, fr41, fr42, Value.bool true, Value.int .i64 0, Value.bool true, Value.int .i64 sh, Value.int .i64 0, Value.bool true, Value.int .i64 co, Value.bool true, Value.int .i64 gn, fr52, fr53, fr54, fr55, fr56, fr57, fr58, fr59, fr60, fr61, fr62, fr63, fr64, fr65, fr66, fr67, fr68, fr69, fr70, fr71, fr72, fr73, fr74, fr75, fr76, fr77, fr78, fr79, fr80, fr81, fr82, fr83, fr84, fr85, fr86, fr87, fr88, fr89, fr90, fr91, fr92, fr93, fr94, fr95, fr96, fr97, fr98, fr99, fr100, fr101, fr102, fr103, fr104, fr105, fr106, fr107, fr108, fr109, fr110, fr111, fr112, fr113, fr114, fr115, fr116, fr117, fr118, fr119, fr120, fr121, fr122, fr123, fr124, fr125, fr126, fr127, fr128, fr129, fr130, fr131, fr132, fr133, fr134, fr135, fr136, fr137, fr138, fr139, fr140, fr141, fr142, fr143, fr144, fr145, fr146, fr147, fr148, fr149, fr150, fr151, fr152, fr153, fr154, fr155, fr156, fr157, fr158, fr159, fr160, fr161, fr162, fr163, fr164, fr165, fr166, fr167, fr168, fr169, fr170, fr171, fr172, fr173, fr174, fr175, fr176, fr177, fr178, fr179, fr180, fr181, fr182, fr183, fr184, fr185, fr186, fr187, fr188, fr189, fr190, fr191, fr192, fr193, fr194, fr195, fr196, fr197, fr198, fr199, fr200, fr201, fr202, fr203, fr204, fr205, fr206, fr207, fr208, fr209, fr210, fr211, fr212, fr213, fr214, fr215, fr216, fr217, fr218, fr219, fr220, fr221, fr222, fr223, fr224, fr225, fr226, fr227, fr228, fr229, fr230, fr231, fr232, fr233, fr234, fr235, fr236, fr237, fr238, fr239, fr240, fr241, fr242, fr243, fr244, fr245, fr246, fr247, fr248, fr249, fr250, fr251, fr252, fr253, fr254, fr255, fr256, fr257, fr258, fr259, fr260, fr261, fr262, fr263, fr264, fr265, fr266, fr267, fr268, fr269, fr270, fr271, fr272, fr273, fr274, fr275, fr276, fr277, fr278, fr279, fr280, fr281, fr282, fr283, fr284, fr285, fr286, fr287, fr288, fr289, fr290, fr291, fr292, fr293, fr294, fr295, fr296, fr297, fr298, fr299, fr300, fr301, fr302, fr303, fr304, fr305, fr306, fr307, fr308, fr309, fr310, fr311, fr312, fr313, fr314, fr315, fr316, fr317, fr318, fr319, fr320, fr321, fr322, fr323, fr324, fr325, fr326, fr327, fr328, fr329, fr330, fr331, fr332, fr333, fr334, fr335, fr336, fr337, fr338, undef, undef, undef, undef, undef, undef, undef, undef, undef, undef, undef, undef, undef, undef, undef, undef, undef, undef, undef, undef, undef, undef, undef, undef, undef, undef, undef, undef, undef, undef, undef, undef, undef, undef, undef, undef, undef, undef, undef, undef, undef, undef, undef, undef, undef, undef, undef, undef, undef, undef, undef, undef, undef, undef, undef, undef, undef, undef, undef, undef, undef, undef, undef, undef, undef, undef, undef, undef, undef, undef, undef, undef, undef, undef, undef, undef, undef, undef, undef, undef, undef, undef, undef, undef, undef, undef, undef, undef, undef, undef, undef, undef, undef, undef, undef, undef, undef, undef, undef, undef, undef, undef, undef, undef, undef, undef, undef, undef, undef, fr448, fr449, fr450, fr451, fr452, fr453, fr454, fr455, fr456, fr457, fr458, fr459, fr460, fr461, fr462, fr463, fr464, fr465, fr466, fr467, fr468, fr469, fr470, fr471, fr472, fr473, fr474, fr475, fr476, fr477, fr478, fr479, fr480, fr481, fr482, fr483, fr484, fr485, fr486, fr487, fr488, fr489, fr490, fr491, fr492, fr493, fr494, fr495, fr496], []⟩ W := by
  have HKx := hide hKx
  clear hKx
  conv => arg 2; whnf
  try conv => arg 2; simp only [List.append_eq, List.cons_append, List.nil_append]
  refine wp_seq_k (fun K hK => ?_)
  have HK := hide (show ∀ a w', Code.wp Try.prog (tailN 7 innerHS) (Exit.then Kx (bodyPost Try.prog Try.f3 (fun e w' => e = .returned (.bool true) ∧ Below w.heap.size w w'))) a w' → K a w' from hK)
  clear hK
  have hHS := hide (And.intro HFS (And.intro HFH (And.intro HRB (And.intro HTB (And.intro HGX HGR)))))
  have hfn := neq_same gn
  have hLL := neq_same L
  have hRR := neq_same rd
  have hnn := neq_same (zs.length : Int)
  have hflI : (fl.length : Int) = (zs.length : Int) - 1 := by have := hfl1.out; omega
  have hrlI : (rf.length : Int) = (zs.length : Int) := by have := hrl1.out; omega
  have h1a : (ml : Int) < (zs.length : Int) := by omega
  have HKF := hide (fun W' B (h : Ints W' B Af fl.length fl) => kSize_any Af fl.length cf B fl W' h (by have := hfl1.out; omega) HFW.out)
  have HKR := hide (fun W' B (h : Ints W' B Ar rf.length rf) => kSize_any Ar rf.length cr B rf W' h (by have := hrl1.out; omega) HRW.out)
  rw [hHL.out] at HKF
  rw [hHR.out] at HKR
  have HSB := hide hsb
  have HG12 := hide (And.intro hg1 hg2)
  have hn1 : 1 ≤ (zs.length : Int) := by omega
  have hn12 : (zs.length : Int) ≤ 12 := by omega
  clear hsb hcb hg1 hg2 s1
  have hundef : undef = Value.tuple #[] := rfl
  go_wp2_with fail
  all_goals
    refine (HKF.out _ _ hIAf.out).mono ?_; rintro e _ ⟨rfl, rfl⟩
    go_wp2_with fail
    exact HK.out _ _ (HzC3 w _ Kx HKx.out zs fl rf sh HG12.out.1 HG12.out.2 HFS HFH HRB HTB HGX HGR hfl1 hrl1 HSB.out Az cz hIAz hcz hczm Af cf hIAf hcf hcfm Ar cr hIAr hcr hcrm hB _ _ _ _ _ _ _ _ _ _ _ _ _ _ _ _ _ _ _ _ _ _ _ _ _ _ _ _ _ _ _ _ _ _ _ _ _ _ _ _ _ _ _ _ _ _ _ _ _ _ _ _ _ _ _ _ _ _ _ _ _ _ _ _ _ _ _ _ _ _ _ _ _ _ _ _ _ _ _ _ _ _ _ _ _ _ _ _ _ _ _ _ _ _ _ _ _ _ _ _ _ _ _ _ _ _ _ _ _ _ _ _ _ _ _ _ _ _ _ _ _ _ _ _ _ _ _ _ _ _ _ _ _ _ _ _ _ _ _ _ _ _ _ _ _ _ _ _ _ _ _ _ _ _ _ _ _ _ _ _ _ _ _ _ _ _ _ _ _ _ _ _ _ _ _ _ _ _ _ _ _ _ _ _ _ _ _ _ _ _ _ _ _ _ _ _ _ _ _ _ _ _ _ _ _ _ _ _ _ _ _ _ _ _ _ _ _ _ _ _ _ _ _ _ _ _ _ _ _ _ _ _ _ _ _ _ _ _ _ _ _ _ _ _ _ _ _ _ _ _ _ _ _ _ _ _ _ _ _ _ _ _ _ _ _ _ _ _ _ _ _ _ _ _ _ _ _ _ _ _ _ _ _ _ _ _ _ _ _ _ _ _ _ _ _ _ _ _ _ _ _ _ _ _ _ _ _ _ _ _ _ _ _ _ _ _ _ _ _ _ _ _ _ _ _ _ _ _ _ _ _ _ _ _ _ _ _ _ _ _ _ _ _ _ _ _ _ _ _ _ _ _ _ _ _ _ _ _ _ _ _ _ _ _ _ _ _ _ _ _ _ _ _ _ _ _ _ _ _ _ _ _ _ _ _ _ _ _ _ _ _ _ _ _ _ _ _ _ _ _ _ _ _ _ _ _ _ _ _ _ _ _ _ _ _ _ _ _ _ _ _ _ _ _ _ _ _ _ _ _ _ _ _ _ _ _ _ _ _ _ _ _ _ _ _ _ _ _ _ _ _ _ _ _ _ _ _ _ _ _ _ _ _ _ _ _ _ _ _ _ _ _ _ _ _ _ _ _ _ _ _ _ _ _ _ _ _ _ _ _ _ _ _ )
end Go.Proofs.Ytediapekgbekeaa

/-
  FnHeapsShared: the second condition.
-/
namespace Go.Proofs.Ytediapekgbekeaa
open Go.RowKit Go.Deep
set_option linter.unusedVariables false

set_option maxRecDepth 100000 in
set_option maxHeartbeats 100000000 in
theorem HzC2b (w W : World) (Kx : Act → World → Prop) (hKx : ∀ a w', Code.wp Try.prog (tailN 23 bodyHS) (bodyPost Try.prog Try.f3 (fun e w' => e = .returned (.bool true) ∧ Below w.heap.size w w')) a w' → Kx a w') (zs fl rf : List Int) (sh : Int) (hg1 : 1 ≤ zs.length) (hg2 : zs.length ≤ 12) (HFS : Hid (∀ k, k < zs.length → tot ((over zs).take (k + 1)) = tot ((over zs).take k) + (zs.getD k 0 - sh))) (HFH : Hid (∀ k, k < zs.length - 1 → fl.getD k 0 = tot ((over zs).take (k + 1)))) (HRB : Hid (∀ k, k < zs.length → rf.getD k 0 - rf.getD (back zs.length k) 0 = zs.getD k 0 - sh)) (HTB : Hid (∀ k, -144000 ≤ tot ((over zs).take k) ∧ tot ((over zs).take k) ≤ 12000)) (HGX : Hid (∀ k, k < zs.length → 0 ≤ zs.getD k 0 ∧ zs.getD k 0 ≤ 1000)) (HGR : Hid (∀ k, k < zs.length → -1000000000 ≤ rf.getD k 0 ∧ rf.getD k 0 ≤ 1000000000)) (hfl1 : Hid (fl.length = zs.length - 1)) (hrl1 : Hid (rf.length = zs.length)) (hsb : 0 ≤ sh ∧ sh ≤ 1000) (AM : Option Addr) (ml cM : Nat) (gn fw L rd mo co : Int) (s1 : ml < zs.length) (q1 : 0 ≤ fw) (q2 : fw ≤ ml) (h8 : (zs.length : Int) ≤ 8) (hone : 1 < (zs.length : Int)) (s3 : L ≤ co) (s4 : gn ≤ L) (s5 : rd ≤ L) (s6 : gn ≤ rd) (s7 : mo ≤ L) (hcb : 0 ≤ co ∧ co ≤ 11000 * (ml : Int)) (HFW : Hid (within (-1000000000) 1000000000 fl = true)) (HRW : Hid (within (-1000000000) 1000000000 rf = true)) (hHL : Hid (sizes fl = L)) (hHR : Hid (sizes rf = rd)) (Az : Option Addr) (cz : Nat) (hIAz : Hid (Ints W W.heap.size Az zs.length zs)) (hcz : zs.length ≤ cz) (hczm : cz ≤ maxLen) (Af : Option Addr) (cf : Nat) (hIAf : Hid (Ints W W.heap.size Af fl.length fl)) (hcf : fl.length ≤ cf) (hcfm : cf ≤ maxLen) (Ar : Option Addr) (cr : Nat) (hIAr : Hid (Ints W W.heap.size Ar rf.length rf)) (hcr : rf.length ≤ cr) (hcrm : cr ≤ maxLen) (hB : Hid (Below w.heap.size w W)) (fr0 fr1 fr2 fr3 fr4 fr7 fr8 fr9 fr11 fr12 fr13 fr16 fr17 fr19 fr20 fr21 fr23 fr24 fr25 fr27 fr28 fr29 fr31 fr32 fr33 fr35 fr36 fr37 fr38 fr39 fr40 fr41 fr42 fr52 fr53 fr54 fr55 fr56 fr57 fr58 fr59 fr60 fr61 fr62 fr63 fr64 fr65 fr66 fr67 fr68 fr69 fr70 fr71 fr72 fr73 fr74 fr75 fr76 fr77 fr78 fr79 fr80 fr81 fr82 fr83 fr84 fr85 fr86 fr87 fr88 fr89 fr90 fr91 fr92 fr93 fr94 fr95 fr96 fr97 fr98 fr99 fr100 fr101 fr102 fr103 fr104 fr105 fr106 fr107 fr108 fr109 fr110 fr111 fr112 fr113 fr114 fr115 fr116 fr117 fr118 fr119 fr120 fr121 fr122 fr123 fr124 fr125 fr126 fr127 fr128 fr129 fr130 fr131 fr132 fr133 fr134 fr135 fr136 fr137 fr138 fr139 fr140 fr141 fr142 fr143 fr144 fr145 fr146 fr147 fr148 fr149 fr150 fr151 fr152 fr153 fr154 fr155 fr156 fr157 fr158 fr159 fr160 fr161 fr162 fr163 fr164 fr165 fr166 fr167 fr168 fr169 fr170 fr171 fr172 fr173 fr174 fr175 fr176 fr177 fr178 fr179 fr180 fr181 fr182 fr183 fr184 fr185 fr186 fr187 fr188 fr189 fr190 fr191 fr192 fr193 fr194 fr195 fr196 fr197 fr198 fr199 fr200 fr201 fr202 fr203 fr204 fr205 fr206 fr207 fr208 fr209 fr210 fr211 fr212 fr213 fr214 fr215 fr216 fr217 fr218 fr219 fr220 fr221 fr222 fr223 fr224 fr225 fr226 fr227 fr228 fr229 fr230 fr231 fr232 fr233 fr234 fr235 fr236 fr237 fr238 fr239 fr240 fr241 fr242 fr243 fr244 fr245 fr246 fr247 fr248 fr249 fr250 fr251 fr252 fr253 fr254 fr255 fr256 fr257 fr258 fr259 fr260 fr261 fr262 fr263 fr264 fr265 fr266 fr267 fr268 fr269 fr270 fr271 fr272 fr273 fr274 fr275 fr276 fr277 fr278 fr279 fr280 fr281 fr282 fr283 fr284 fr285 fr286 fr287 fr288 fr289 fr290 fr291 fr292 fr293 fr294 fr295 fr296 fr297 fr298 fr299 fr300 fr301 fr302 fr303 fr304 fr305 fr306 fr307 fr308 fr309 fr310 fr311 fr312 fr313 fr314 fr315 fr316 fr317 fr318 fr319 fr320 fr321 fr322 fr323 fr324 fr325 fr326 fr327 fr328 fr329 fr330 fr331 fr332 fr333 fr334 fr335 fr336 fr337 fr338 fr448 fr449 fr450 fr451 fr452 fr453 fr454 fr455 fr456 fr457 fr458 fr459 fr460 fr461 fr462 fr463 fr464 fr465 fr466 fr467 fr468 fr469 fr470 fr471 fr472 fr473 fr474 fr475 fr476 fr477 fr478 fr479 fr480 fr481 fr482 fr483 fr484 fr485 fr486 fr487 fr488 fr489 fr490 fr491 fr492 fr493 fr494 fr495 fr496 : Value) :
    Code.wp Try.prog (tailN 6 innerHS) (Exit.then Kx (bodyPost Try.prog Try.f3 (fun e w' => e = .returned (.bool true) ∧ Below w.heap.size w w'))) ⟨#[fr0, fr1, fr2, fr3, fr4, Value.slice Az zs.length cz, Value.slice AM ml cM, fr7, fr8, fr9, Value.int .i64 gn, fr11, fr12, fr13, Value.int .i64 fw, Value.bool true, fr16, fr17, Value.int .i64 L, fr19, fr20, fr21, Value.slice Af fl.length cf, fr23, fr24, fr25, Value.int .i64 rd, fr27, fr28, fr29, Value.slice Ar rf.length cr, fr31, fr32, fr33, Value.int .i64 mo, fr35, fr36, fr37, fr38, fr39, fr40, fr41, fr42, Value.bool true, Value.int .i64 0, Value.bool true, Value.int .i64 sh, Value.int .i64 0, Value.bool true, Value.int .i64 co, Value.bool true, Value.int .i64 gn, fr52, fr53, fr54, fr55, fr56, fr57, fr58, fr59, fr60, fr61, fr62, fr63, fr64, fr65, fr66, fr67, fr68, fr69, fr70, fr71, fr72, fr73, fr74, fr75, fr76, fr77, fr78, fr79, fr80, fr81, fr82, fr83, fr84, fr85, fr86, fr87, fr88, fr89, fr90, fr91, fr92, fr93, fr94, fr95, fr96, fr97, fr98, fr99, fr100, fr101, fr102, fr103, fr104, fr105, fr106, fr107, fr108, fr109, fr110, fr111, fr112, fr113, fr114, fr115, fr116, fr117, fr118, fr119, fr120, fr121, fr122, fr123, fr124, fr125, fr126, fr127, fr128, fr129, fr130, fr131, fr132, fr133, fr134, fr135, fr136, fr137, fr138, fr139, fr140, fr141, fr142, fr143, fr144, fr145, fr146, fr147, fr148, fr149, fr150, fr151, fr152, fr153, fr154, fr155, fr156, fr157, fr158, fr159, fr160, fr161, fr162, fr163, fr164, fr165, fr166, fr167, fr168, fr169, fr170, fr171, fr172, fr173, fr174, fr175, fr176, fr177, fr178, fr179, fr180, fr181, fr182, fr183, fr184, fr185, fr186, fr187, fr188, fr189, fr190, fr191, fr192, fr193, fr194, fr195, fr196, fr197, fr198, fr199, fr200, fr201, fr202, fr203, fr204, fr205, fr206, fr207, fr208, fr209, fr210, fr211, fr212, fr213, fr214, fr215, fr216, fr217, fr218, fr219, fr220, fr221, fr222, fr223, fr224, fr225, fr226, fr227, fr228, fr229, fr230, fr231, fr232, fr233, fr234, fr235, fr236, fr237, fr238, fr239, fr240, fr241, fr242, fr243, fr244, fr245, fr246, fr247, fr248, fr249, fr250, fr251, fr252, fr253, fr254, fr255, fr256, fr257, fr258, fr259, fr260, fr261, fr262, fr263, fr264, fr265, fr266, fr267, fr268, fr269, fr270, fr271, fr272, fr273, fr274, fr275, fr276, fr277, fr278, fr279, fr280, fr281, fr282, fr283, fr284, fr285, fr286, fr287, fr288, fr289, fr290, fr291, fr292, fr293, fr294, fr295, fr296, fr297, fr298, fr299, fr300, fr301, fr302, fr303, fr304, fr305, fr306, fr307, fr308, fr309, fr310, fr311, fr312, fr313, fr314, fr315, fr316, fr317, fr318, fr319, fr320, fr321, fr322, fr323, fr324, fr325, fr326, fr327, fr328, fr329, fr330, fr331, fr332, fr333, fr334, fr335, fr336, fr337, fr338, undef, undef, undef, undef, undef, undef, undef, undef, undef, undef, undef, undef, undef, undef, undef, undef, undef, undef, undef, undef, undef, undef, undef, undef, undef, undef, undef, undef, undef, undef, undef, undef, undef, undef, undef, undef, undef, undef, undef, undef, undef, undef, undef, undef, undef, undef, undef, undef, undef, undef, undef, undef, undef, undef, undef, undef, undef, undef, undef, undef, undef, undef, undef, undef, undef, undef, undef, undef, undef, undef, undef, undef, undef, undef, undef, undef, undef, undef, undef, undef, undef, undef, undef, undef, undef, undef, undef, undef, undef, undef, undef, undef, undef, undef, undef, undef, undef, undef, undef, undef, undef, undef, undef, undef, undef, undef, undef, undef, undef, fr448, fr449, fr450, fr451, fr452, fr453, fr454, fr455, fr456, fr457, fr458, fr459, fr460, fr461, fr462, fr463, fr464, fr465, fr466, fr467, fr468, fr469, fr470, fr471, fr472, fr473, fr474, fr475, fr476, fr477, fr478, fr479, fr480, fr481, fr482, fr483, fr484, fr485, fr486, fr487, fr488, fr489, fr490, fr491, fr492, fr493, fr494, fr495, fr496], []⟩ W := by
  have HKx := hide hKx
  clear hKx
  conv => arg 2; whnf
  try conv => arg 2; simp only [List.append_eq, List.cons_append, List.nil_append]
  refine wp_seq_k (fun K hK => ?_)
  have HK := hide (show ∀ a w', Code.wp Try.prog (tailN 7 innerHS) (Exit.then Kx (bodyPost Try.prog Try.f3 (fun e w' => e = .returned (.bool true) ∧ Below w.heap.size w w'))) a w' → K a w' from hK)
  clear hK
  have hHS := hide (And.intro HFS (And.intro HFH (And.intro HRB (And.intro HTB (And.intro HGX HGR)))))
  have hfn := neq_same gn
  have hLL := neq_same L
  have hRR := neq_same rd
  have hnn := neq_same (zs.length : Int)
  have hflI : (fl.length : Int) = (zs.length : Int) - 1 := by have := hfl1.out; omega
  have hrlI : (rf.length : Int) = (zs.length : Int) := by have := hrl1.out; omega
  have h1a : (ml : Int) < (zs.length : Int) := by omega
  have HKF := hide (fun W' B (h : Ints W' B Af fl.length fl) => kSize_any Af fl.length cf B fl W' h (by have := hfl1.out; omega) HFW.out)
  have HKR := hide (fun W' B (h : Ints W' B Ar rf.length rf) => kSize_any Ar rf.length cr B rf W' h (by have := hrl1.out; omega) HRW.out)
  rw [hHL.out] at HKF
  rw [hHR.out] at HKR
  have HSB := hide hsb
  have HG12 := hide (And.intro hg1 hg2)
  have hn1 : 1 ≤ (zs.length : Int) := by omega
  have hn12 : (zs.length : Int) ≤ 12 := by omega
  clear hsb hcb hg1 hg2 s1
  have hundef : undef = Value.tuple #[] := rfl
  go_wp2_with fail
  refine (HKF.out _ _ hIAf.out).mono ?_; rintro e _ ⟨rfl, rfl⟩
  go_wp2_with fail
  refine (HKR.out _ _ hIAr.out).mono ?_; rintro e _ ⟨rfl, rfl⟩
  go_wp2_with fail
  exact HK.out _ _ (HzC3 w _ Kx HKx.out zs fl rf sh HG12.out.1 HG12.out.2 HFS HFH HRB HTB HGX HGR hfl1 hrl1 HSB.out Az cz hIAz hcz hczm Af cf hIAf hcf hcfm Ar cr hIAr hcr hcrm hB _ _ _ _ _ _ _ _ _ _ _ _ _ _ _ _ _ _ _ _ _ _ _ _ _ _ _ _ _ _ _ _ _ _ _ _ _ _ _ _ _ _ _ _ _ _ _ _ _ _ _ _ _ _ _ _ _ _ _ _ _ _ _ _ _ _ _ _ _ _ _ _ _ _ _ _ _ _ _ _ _ _ _ _ _ _ _ _ _ _ _ _ _ _ _ _ _ _ _ _ _ _ _ _ _ _ _ _ _ _ _ _ _ _ _ _ _ _ _ _ _ _ _ _ _ _ _ _ _ _ _ _ _ _ _ _ _ _ _ _ _ _ _ _ _ _ _ _ _ _ _ _ _ _ _ _ _ _ _ _ _ _ _ _ _ _ _ _ _ _ _ _ _ _ _ _ _ _ _ _ _ _ _ _ _ _ _ _ _ _ _ _ _ _ _ _ _ _ _ _ _ _ _ _ _ _ _ _ _ _ _ _ _ _ _ _ _ _ _ _ _ _ _ _ _ _ _ _ _ _ _ _ _ _ _ _ _ _ _ _ _ _ _ _ _ _ _ _ _ _ _ _ _ _ _ _ _ _ _ _ _ _ _ _ _ _ _ _ _ _ _ _ _ _ _ _ _ _ _ _ _ _ _ _ _ _ _ _ _ _ _ _ _ _ _ _ _ _ _ _ _ _ _ _ _ _ _ _ _ _ _ _ _ _ _ _ _ _ _ _ _ _ _ _ _ _ _ _ _ _ _ _ _ _ _ _ _ _ _ _ _ _ _ _ _ _ _ _ _ _ _ _ _ _ _ _ _ _ _ _ _ _ _ _ _ _ _ _ _ _ _ _ _ _ _ _ _ _ _ _ _ _ _ _ _ _ _ _ _ _ _ _ _ _ _ _ _ _ _ _ _ _ _ _ _ _ _ _ _ _ _ _ _ _ _ _ _ _ _ _ _ _ _ _ _ _ _ _ _ _ _ _ _ _ _ _ _ _ _ _ _ _ _ _ _ _ _ _ _ _ _ _ _ _ _ _ _ _ _ _ _ _ _ _ _ _ _ _ _ _ _ _ _ _ _ _ _ _ _ _ _ _ _ _ _ _ _ _ _ _ _ _ _ )
end Go.Proofs.Ytediapekgbekeaa

/-
  FnHeapsShared: the second condition.
-/
namespace Go.Proofs.Ytediapekgbekeaa
open Go.RowKit Go.Deep
set_option linter.unusedVariables false

set_option maxRecDepth 100000 in
set_option maxHeartbeats 100000000 in
theorem HzC2c (w W : World) (Kx : Act → World → Prop) (hKx : ∀ a w', Code.wp Try.prog (tailN 23 bodyHS) (bodyPost Try.prog Try.f3 (fun e w' => e = .returned (.bool true) ∧ Below w.heap.size w w')) a w' → Kx a w') (zs fl rf : List Int) (sh : Int) (hg1 : 1 ≤ zs.length) (hg2 : zs.length ≤ 12) (HFS : Hid (∀ k, k < zs.length → tot ((over zs).take (k + 1)) = tot ((over zs).take k) + (zs.getD k 0 - sh))) (HFH : Hid (∀ k, k < zs.length - 1 → fl.getD k 0 = tot ((over zs).take (k + 1)))) (HRB : Hid (∀ k, k < zs.length → rf.getD k 0 - rf.getD (back zs.length k) 0 = zs.getD k 0 - sh)) (HTB : Hid (∀ k, -144000 ≤ tot ((over zs).take k) ∧ tot ((over zs).take k) ≤ 12000)) (HGX : Hid (∀ k, k < zs.length → 0 ≤ zs.getD k 0 ∧ zs.getD k 0 ≤ 1000)) (HGR : Hid (∀ k, k < zs.length → -1000000000 ≤ rf.getD k 0 ∧ rf.getD k 0 ≤ 1000000000)) (hfl1 : Hid (fl.length = zs.length - 1)) (hrl1 : Hid (rf.length = zs.length)) (hsb : 0 ≤ sh ∧ sh ≤ 1000) (AM : Option Addr) (ml cM : Nat) (gn fw L rd mo co : Int) (s1 : ml < zs.length)  (hone : 8 < (zs.length : Int)) (s3 : L ≤ co) (s4 : gn ≤ L) (s5 : rd ≤ L) (s6 : gn ≤ rd) (s7 : mo ≤ L) (hcb : 0 ≤ co ∧ co ≤ 11000 * (ml : Int)) (HFW : Hid (within (-1000000000) 1000000000 fl = true)) (HRW : Hid (within (-1000000000) 1000000000 rf = true)) (hHL : Hid (sizes fl = L)) (hHR : Hid (sizes rf = rd)) (Az : Option Addr) (cz : Nat) (hIAz : Hid (Ints W W.heap.size Az zs.length zs)) (hcz : zs.length ≤ cz) (hczm : cz ≤ maxLen) (Af : Option Addr) (cf : Nat) (hIAf : Hid (Ints W W.heap.size Af fl.length fl)) (hcf : fl.length ≤ cf) (hcfm : cf ≤ maxLen) (Ar : Option Addr) (cr : Nat) (hIAr : Hid (Ints W W.heap.size Ar rf.length rf)) (hcr : rf.length ≤ cr) (hcrm : cr ≤ maxLen) (hB : Hid (Below w.heap.size w W)) (fr0 fr1 fr2 fr3 fr4 fr7 fr8 fr9 fr11 fr12 fr13 fr16 fr17 fr19 fr20 fr21 fr23 fr24 fr25 fr27 fr28 fr29 fr31 fr32 fr33 fr35 fr36 fr37 fr38 fr39 fr40 fr41 fr42 fr52 fr53 fr54 fr55 fr56 fr57 fr58 fr59 fr60 fr61 fr62 fr63 fr64 fr65 fr66 fr67 fr68 fr69 fr70 fr71 fr72 fr73 fr74 fr75 fr76 fr77 fr78 fr79 fr80 fr81 fr82 fr83 fr84 fr85 fr86 fr87 fr88 fr89 fr90 fr91 fr92 fr93 fr94 fr95 fr96 fr97 fr98 fr99 fr100 fr101 fr102 fr103 fr104 fr105 fr106 fr107 fr108 fr109 fr110 fr111 fr112 fr113 fr114 fr115 fr116 fr117 fr118 fr119 fr120 fr121 fr122 fr123 fr124 fr125 fr126 fr127 fr128 fr129 fr130 fr131 fr132 fr133 fr134 fr135 fr136 fr137 fr138 fr139 fr140 fr141 fr142 fr143 fr144 fr145 fr146 fr147 fr148 fr149 fr150 fr151 fr152 fr153 fr154 fr155 fr156 fr157 fr158 fr159 fr160 fr161 fr162 fr163 fr164 fr165 fr166 fr167 fr168 fr169 fr170 fr171 fr172 fr173 fr174 fr175 fr176 fr177 fr178 fr179 fr180 fr181 fr182 fr183 fr184 fr185 fr186 fr187 fr188 fr189 fr190 fr191 fr192 fr193 fr194 fr195 fr196 fr197 fr198 fr199 fr200 fr201 fr202 fr203 fr204 fr205 fr206 fr207 fr208 fr209 fr210 fr211 fr212 fr213 fr214 fr215 fr216 fr217 fr218 fr219 fr220 fr221 fr222 fr223 fr224 fr225 fr226 fr227 fr228 fr229 fr230 fr231 fr232 fr233 fr234 fr235 fr236 fr237 fr238 fr239 fr240 fr241 fr242 fr243 fr244 fr245 fr246 fr247 fr248 fr249 fr250 fr251 fr252 fr253 fr254 fr255 fr256 fr257 fr258 fr259 fr260 fr261 fr262 fr263 fr264 fr265 fr266 fr267 fr268 fr269 fr270 fr271 fr272 fr273 fr274 fr275 fr276 fr277 fr278 fr279 fr280 fr281 fr282 fr283 fr284 fr285 fr286 fr287 fr288 fr289 fr290 fr291 fr292 fr293 fr294 fr295 fr296 fr297 fr298 fr299 fr300 fr301 fr302 fr303 fr304 fr305 fr306 fr307 fr308 fr309 fr310 fr311 fr312 fr313 fr314 fr315 fr316 fr317 fr318 fr319 fr320 fr321 fr322 fr323 fr324 fr325 fr326 fr327 fr328 fr329 fr330 fr331 fr332 fr333 fr334 fr335 fr336 fr337 fr338 fr448 fr449 fr450 fr451 fr452 fr453 fr454 fr455 fr456 fr457 fr458 fr459 fr460 fr461 fr462 fr463 fr464 fr465 fr466 fr467 fr468 fr469 fr470 fr471 fr472 fr473 fr474 fr475 fr476 fr477 fr478 fr479 fr480 fr481 fr482 fr483 fr484 fr485 fr486 fr487 fr488 fr489 fr490 fr491 fr492 fr493 fr494 fr495 fr496 : Value) :
    Code.wp Try.prog (tailN 6 innerHS) (Exit.then Kx (bodyPost Try.prog Try.f3 (fun e w' => e = .returned (.bool true) ∧ Below w.heap.size w w'))) ⟨#[fr0, fr1, fr2, fr3, fr4, Value.slice Az zs.length cz, Value.slice AM ml cM, fr7, fr8, fr9, Value.int .i64 gn, fr11, fr12, fr13, Value.int .i64 fw, Value.bool false, fr16, fr17, Value.int .i64 L, fr19, fr20, fr21, Value.slice Af fl.length cf, fr23, fr24, fr25, Value.int .i64 rd, fr27, fr28, fr29, Value.slice Ar rf.length cr, fr31, fr32, fr33, Value.int .i64 mo, fr35, fr36, fr37, fr38, fr39, fr40, fr41, fr42, Value.bool true, Value.int .i64 0, Value.bool true, Value.int .i64 sh, Value.int .i64 0, Value.bool true, Value.int .i64 co, Value.bool true, Value.int .i64 gn, fr52, fr53, fr54, fr55, fr56, fr57, fr58, fr59, fr60, fr61, fr62, fr63, fr64, fr65, fr66, fr67, fr68, fr69, fr70, fr71, fr72, fr73, fr74, fr75, fr76, fr77, fr78, fr79, fr80, fr81, fr82, fr83, fr84, fr85, fr86, fr87, fr88, fr89, fr90, fr91, fr92, fr93, fr94, fr95, fr96, fr97, fr98, fr99, fr100, fr101, fr102, fr103, fr104, fr105, fr106, fr107, fr108, fr109, fr110, fr111, fr112, fr113, fr114, fr115, fr116, fr117, fr118, fr119, fr120, fr121, fr122, fr123, fr124, fr125, fr126, fr127, fr128, fr129, fr130, fr131, fr132, fr133, fr134, fr135, fr136, fr137, fr138, fr139, fr140, fr141, fr142, fr143, fr144, fr145, fr146, fr147, fr148, fr149, fr150, fr151, fr152, fr153, fr154, fr155, fr156, fr157, fr158, fr159, fr160, fr161, fr162, fr163, fr164, fr165, fr166, fr167, fr168, fr169, fr170, fr171, fr172, fr173, fr174, fr175, fr176, fr177, fr178, fr179, fr180, fr181, fr182, fr183, fr184, fr185, fr186, fr187, fr188, fr189, fr190, fr191, fr192, fr193, fr194, fr195, fr196, fr197, fr198, fr199, fr200, fr201, fr202, fr203, fr204, fr205, fr206, fr207, fr208, fr209, fr210, fr211, fr212, fr213, fr214, fr215, fr216, fr217, fr218, fr219, fr220, fr221, fr222, fr223, fr224, fr225, fr226, fr227, fr228, fr229, fr230, fr231, fr232, fr233, fr234, fr235, fr236, fr237, fr238, fr239, fr240, fr241, fr242, fr243, fr244, fr245, fr246, fr247, fr248, fr249, fr250, fr251, fr252, fr253, fr254, fr255, fr256, fr257, fr258, fr259, fr260, fr261, fr262, fr263, fr264, fr265, fr266, fr267, fr268, fr269, fr270, fr271, fr272, fr273, fr274, fr275, fr276, fr277, fr278, fr279, fr280, fr281, fr282, fr283, fr284, fr285, fr286, fr287, fr288, fr289, fr290, fr291, fr292, fr293, fr294, fr295, fr296, fr297, fr298, fr299, fr300, fr301, fr302, fr303, fr304, fr305, fr306, fr307, fr308, fr309, fr310, fr311, fr312, fr313, fr314, fr315, fr316, fr317, fr318, fr319, fr320, fr321, fr322, fr323, fr324, fr325, fr326, fr327, fr328, fr329, fr330, fr331, fr332, fr333, fr334, fr335, fr336, fr337, fr338, undef, undef, undef, undef, undef, undef, undef, undef, undef, undef, undef, undef, undef, undef, undef, undef, undef, undef, undef, undef, undef, undef, undef, undef, undef, undef, undef, undef, undef, undef, undef, undef, undef, undef, undef, undef, undef, undef, undef, undef, undef, undef, undef, undef, undef, undef, undef, undef, undef, undef, undef, undef, undef, undef, undef, undef, undef, undef, undef, undef, undef, undef, undef, undef, undef, undef, undef, undef, undef, undef, undef, undef, undef, undef, undef, undef, undef, undef, undef, undef, undef, undef, undef, undef, undef, undef, undef, undef, undef, undef, undef, undef, undef, undef, undef, undef, undef, undef, undef, undef, undef, undef, undef, undef, undef, undef, undef, undef, undef, fr448, fr449, fr450, fr451, fr452, fr453, fr454, fr455, fr456, fr457, fr458, fr459, fr460, fr461, fr462, fr463, fr464, fr465, fr466, fr467, fr468, fr469, fr470, fr471, fr472, fr473, fr474, fr475, fr476, fr477, fr478, fr479, fr480, fr481, fr482, fr483, fr484, fr485, fr486, fr487, fr488, fr489, fr490, fr491, fr492, fr493, fr494, fr495, fr496], []⟩ W := by
  have HKx := hide hKx
  clear hKx
  conv => arg 2; whnf
  try conv => arg 2; simp only [List.append_eq, List.cons_append, List.nil_append]
  refine wp_seq_k (fun K hK => ?_)
  have HK := hide (show ∀ a w', Code.wp Try.prog (tailN 7 innerHS) (Exit.then Kx (bodyPost Try.prog Try.f3 (fun e w' => e = .returned (.bool true) ∧ Below w.heap.size w w'))) a w' → K a w' from hK)
  clear hK
  have hHS := hide (And.intro HFS (And.intro HFH (And.intro HRB (And.intro HTB (And.intro HGX HGR)))))
  have hfn := neq_same gn
  have hLL := neq_same L
  have hRR := neq_same rd
  have hnn := neq_same (zs.length : Int)
  have hflI : (fl.length : Int) = (zs.length : Int) - 1 := by have := hfl1.out; omega
  have hrlI : (rf.length : Int) = (zs.length : Int) := by have := hrl1.out; omega
  have h1a : (ml : Int) < (zs.length : Int) := by omega
  have HKF := hide (fun W' B (h : Ints W' B Af fl.length fl) => kSize_any Af fl.length cf B fl W' h (by have := hfl1.out; omega) HFW.out)
  have HKR := hide (fun W' B (h : Ints W' B Ar rf.length rf) => kSize_any Ar rf.length cr B rf W' h (by have := hrl1.out; omega) HRW.out)
  rw [hHL.out] at HKF
  rw [hHR.out] at HKR
  have HSB := hide hsb
  have HG12 := hide (And.intro hg1 hg2)
  have hn1 : 1 ≤ (zs.length : Int) := by omega
  have hn12 : (zs.length : Int) ≤ 12 := by omega
  clear hsb hcb hg1 hg2 s1
  have hundef : undef = Value.tuple #[] := rfl
  have hone1 : 1 < (zs.length : Int) := by omega
  clear hone
  go_wp2_with fail
  refine (HKF.out _ _ hIAf.out).mono ?_; rintro e _ ⟨rfl, rfl⟩
  go_wp2_with fail
  refine (HKR.out _ _ hIAr.out).mono ?_; rintro e _ ⟨rfl, rfl⟩
  go_wp2_with fail
  exact HK.out _ _ (HzC3 w _ Kx HKx.out zs fl rf sh HG12.out.1 HG12.out.2 HFS HFH HRB HTB HGX HGR hfl1 hrl1 HSB.out Az cz hIAz hcz hczm Af cf hIAf hcf hcfm Ar cr hIAr hcr hcrm hB _ _ _ _ _ _ _ _ _ _ _ _ _ _ _ _ _ _ _ _ _ _ _ _ _ _ _ _ _ _ _ _ _ _ _ _ _ _ _ _ _ _ _ _ _ _ _ _ _ _ _ _ _ _ _ _ _ _ _ _ _ _ _ _ _ _ _ _ _ _ _ _ _ _ _ _ _ _ _ _ _ _ _ _ _ _ _ _ _ _ _ _ _ _ _ _ _ _ _ _ _ _ _ _ _ _ _ _ _ _ _ _ _ _ _ _ _ _ _ _ _ _ _ _ _ _ _ _ _ _ _ _ _ _ _ _ _ _ _ _ _ _ _ _ _ _ _ _ _ _ _ _ _ _ _ _ _ _ _ _ _ _ _ _ _ _ _ _ _ _ _ _ _ _ _ _ _ _ _ _ _ _ _ _ _ _ _ _ _ _ _ _ _ _ _ _ _ _ _ _ _ _ _ _ _ _ _ _ _ _ _ _ _ _ _ _ _ _ _ _ _ _ _ _ _ _ _ _ _ _ _ _ _ _ _ _ _ _ _ _ _ _ _ _ _ _ _ _ _ _ _ _ _ _ _ _ _ _ _ _ _ _ _ _ _ _ _ _ _ _ _ _ _ _ _ _ _ _ _ _ _ _ _ _ _ _ _ _ _ _ _ _ _ _ _ _ _ _ _ _ _ _ _ _ _ _ _ _ _ _ _ _ _ _ _ _ _ _ _ _ _ _ _ _ _ _ _ _ _ _ _ _ _ _ _ _ _ _ _ _ _ _ _ _ _ _ _ _ _ _ _ _ _ _ _ _ _ _ _ _ _ _ _ _ _ _ _ _ _ _ _ _ _ _ _ _ _ _ _ _ _ _ _ _ _ _ _ _ _ _ _ _ _ _ _ _ _ _ _ _ _ _ _ _ _ _ _ _ _ _ _ _ _ _ _ _ _ _ _ _ _ _ _ _ _ _ _ _ _ _ _ _ _ _ _ _ _ _ _ _ _ _ _ _ _ _ _ _ _ _ _ _ _ _ _ _ _ _ _ _ _ _ _ _ _ _ _ _ _ _ _ _ _ _ _ _ _ _ _ _ _ _ _ _ _ _ _ _ _ _ _ _ _ )
end Go.Proofs.Ytediapekgbekeaa

/-
  FnHeapsShared: the second condition.
-/
namespace Go.Proofs.Ytediapekgbekeaa
open Go.RowKit Go.Deep
set_option linter.unusedVariables false

set_option maxRecDepth 100000 in
set_option maxHeartbeats 100000000 in
theorem HzC2 (w W : World) (Kx : Act → World → Prop) (hKx : ∀ a w', Code.wp Try.prog (tailN 23 bodyHS) (bodyPost Try.prog Try.f3 (fun e w' => e = .returned (.bool true) ∧ Below w.heap.size w w')) a w' → Kx a w') (zs fl rf : List Int) (sh : Int) (hg1 : 1 ≤ zs.length) (hg2 : zs.length ≤ 12) (HFS : Hid (∀ k, k < zs.length → tot ((over zs).take (k + 1)) = tot ((over zs).take k) + (zs.getD k 0 - sh))) (HFH : Hid (∀ k, k < zs.length - 1 → fl.getD k 0 = tot ((over zs).take (k + 1)))) (HRB : Hid (∀ k, k < zs.length → rf.getD k 0 - rf.getD (back zs.length k) 0 = zs.getD k 0 - sh)) (HTB : Hid (∀ k, -144000 ≤ tot ((over zs).take k) ∧ tot ((over zs).take k) ≤ 12000)) (HGX : Hid (∀ k, k < zs.length → 0 ≤ zs.getD k 0 ∧ zs.getD k 0 ≤ 1000)) (HGR : Hid (∀ k, k < zs.length → -1000000000 ≤ rf.getD k 0 ∧ rf.getD k 0 ≤ 1000000000)) (hfl1 : Hid (fl.length = zs.length - 1)) (hrl1 : Hid (rf.length = zs.length)) (hsb : 0 ≤ sh ∧ sh ≤ 1000) (AM : Option Addr) (ml cM : Nat) (gn fw L rd mo co : Int) (tb : Bool) (htb : tb = decide ((zs.length : Int) ≤ 8)) (s1 : ml < zs.length) (HFW8 : Hid ((zs.length : Int) ≤ 8 → 0 ≤ fw ∧ fw ≤ ml)) (hgb : 0 ≤ gn) (s3 : L ≤ co) (s4 : gn ≤ L) (s5 : rd ≤ L) (s6 : gn ≤ rd) (s7 : mo ≤ L) (hcb : 0 ≤ co ∧ co ≤ 11000 * (ml : Int)) (HFW : Hid (within (-1000000000) 1000000000 fl = true)) (HRW : Hid (within (-1000000000) 1000000000 rf = true)) (hHL : Hid (sizes fl = L)) (hHR : Hid (sizes rf = rd)) (Az : Option Addr) (cz : Nat) (hIAz : Hid (Ints W W.heap.size Az zs.length zs)) (hcz : zs.length ≤ cz) (hczm : cz ≤ maxLen) (Af : Option Addr) (cf : Nat) (hIAf : Hid (Ints W W.heap.size Af fl.length fl)) (hcf : fl.length ≤ cf) (hcfm : cf ≤ maxLen) (Ar : Option Addr) (cr : Nat) (hIAr : Hid (Ints W W.heap.size Ar rf.length rf)) (hcr : rf.length ≤ cr) (hcrm : cr ≤ maxLen) (hB : Hid (Below w.heap.size w W)) (fr0 fr1 fr2 fr3 fr4 fr7 fr8 fr9 fr11 fr12 fr13 fr16 fr17 fr19 fr20 fr21 fr23 fr24 fr25 fr27 fr28 fr29 fr31 fr32 fr33 fr35 fr36 fr37 fr38 fr39 fr40 fr41 fr42 fr52 fr53 fr54 fr55 fr56 fr57 fr58 fr59 fr60 fr61 fr62 fr63 fr64 fr65 fr66 fr67 fr68 fr69 fr70 fr71 fr72 fr73 fr74 fr75 fr76 fr77 fr78 fr79 fr80 fr81 fr82 fr83 fr84 fr85 fr86 fr87 fr88 fr89 fr90 fr91 fr92 fr93 fr94 fr95 fr96 fr97 fr98 fr99 fr100 fr101 fr102 fr103 fr104 fr105 fr106 fr107 fr108 fr109 fr110 fr111 fr112 fr113 fr114 fr115 fr116 fr117 fr118 fr119 fr120 fr121 fr122 fr123 fr124 fr125 fr126 fr127 fr128 fr129 fr130 fr131 fr132 fr133 fr134 fr135 fr136 fr137 fr138 fr139 fr140 fr141 fr142 fr143 fr144 fr145 fr146 fr147 fr148 fr149 fr150 fr151 fr152 fr153 fr154 fr155 fr156 fr157 fr158 fr159 fr160 fr161 fr162 fr163 fr164 fr165 fr166 fr167 fr168 fr169 fr170 fr171 fr172 fr173 fr174 fr175 fr176 fr177 fr178 fr179 fr180 fr181 fr182 fr183 fr184 fr185 fr186 fr187 fr188 fr189 fr190 fr191 fr192 fr193 fr194 fr195 fr196 fr197 fr198 fr199 fr200 fr201 fr202 fr203 fr204 fr205 fr206 fr207 fr208 fr209 fr210 fr211 fr212 fr213 fr214 fr215 fr216 fr217 fr218 fr219 fr220 fr221 fr222 fr223 fr224 fr225 fr226 fr227 fr228 fr229 fr230 fr231 fr232 fr233 fr234 fr235 fr236 fr237 fr238 fr239 fr240 fr241 fr242 fr243 fr244 fr245 fr246 fr247 fr248 fr249 fr250 fr251 fr252 fr253 fr254 fr255 fr256 fr257 fr258 fr259 fr260 fr261 fr262 fr263 fr264 fr265 fr266 fr267 fr268 fr269 fr270 fr271 fr272 fr273 fr274 fr275 fr276 fr277 fr278 fr279 fr280 fr281 fr282 fr283 fr284 fr285 fr286 fr287 fr288 fr289 fr290 fr291 fr292 fr293 fr294 fr295 fr296 fr297 fr298 fr299 fr300 fr301 fr302 fr303 fr304 fr305 fr306 fr307 fr308 fr309 fr310 fr311 fr312 fr313 fr314 fr315 fr316 fr317 fr318 fr319 fr320 fr321 fr322 fr323 fr324 fr325 fr326 fr327 fr328 fr329 fr330 fr331 fr332 fr333 fr334 fr335 fr336 fr337 fr338 fr448 fr449 fr450 fr451 fr452 fr453 fr454 fr455 fr456 fr457 fr458 fr459 fr460 fr461 fr462 fr463 fr464 fr465 fr466 fr467 fr468 fr469 fr470 fr471 fr472 fr473 fr474 fr475 fr476 fr477 fr478 fr479 fr480 fr481 fr482 fr483 fr484 fr485 fr486 fr487 fr488 fr489 fr490 fr491 fr492 fr493 fr494 fr495 fr496 : Value) :
    Code.wp Try.prog (tailN 6 innerHS) (Exit.then Kx (bodyPost Try.prog Try.f3 (fun e w' => e = .returned (.bool true) ∧ Below w.heap.size w w'))) ⟨#[fr0, fr1, fr2, fr3, fr4, Value.slice Az zs.length cz, Value.slice AM ml cM, fr7, fr8, fr9, Value.int .i64 gn, fr11, fr12, fr13, Value.int .i64 fw, Value.bool tb, fr16, fr17, Value.int .i64 L, fr19, fr20, fr21, Value.slice Af fl.length cf, fr23, fr24, fr25, Value.int .i64 rd, fr27, fr28, fr29, Value.slice Ar rf.length cr, fr31, fr32, fr33, Value.int .i64 mo, fr35, fr36, fr37, fr38, fr39, fr40, fr41, fr42, Value.bool true, Value.int .i64 0, Value.bool true, Value.int .i64 sh, Value.int .i64 0, Value.bool true, Value.int .i64 co, Value.bool true, Value.int .i64 gn, fr52, fr53, fr54, fr55, fr56, fr57, fr58, fr59, fr60, fr61, fr62, fr63, fr64, fr65, fr66, fr67, fr68, fr69, fr70, fr71, fr72, fr73, fr74, fr75, fr76, fr77, fr78, fr79, fr80, fr81, fr82, fr83, fr84, fr85, fr86, fr87, fr88, fr89, fr90, fr91, fr92, fr93, fr94, fr95, fr96, fr97, fr98, fr99, fr100, fr101, fr102, fr103, fr104, fr105, fr106, fr107, fr108, fr109, fr110, fr111, fr112, fr113, fr114, fr115, fr116, fr117, fr118, fr119, fr120, fr121, fr122, fr123, fr124, fr125, fr126, fr127, fr128, fr129, fr130, fr131, fr132, fr133, fr134, fr135, fr136, fr137, fr138, fr139, fr140, fr141, fr142, fr143, fr144, fr145, fr146, fr147, fr148, fr149, fr150, fr151, fr152, fr153, fr154, fr155, fr156, fr157, fr158, fr159, fr160, fr161, fr162, fr163, fr164, fr165, fr166, fr167, fr168, fr169, fr170, fr171, fr172, fr173, fr174, fr175, fr176, fr177, fr178, fr179, fr180, fr181, fr182, fr183, fr184, fr185, fr186, fr187, fr188, fr189, fr190, fr191, fr192, fr193, fr194, fr195, fr196, fr197, fr198, fr199, fr200, fr201, fr202, fr203, fr204, fr205, fr206, fr207, fr208, fr209, fr210, fr211, fr212, fr213, fr214, fr215, fr216, fr217, fr218, fr219, fr220, fr221, fr222, fr223, fr224, fr225, fr226, fr227, fr228, fr229, fr230, fr231, fr232, fr233, fr234, fr235, fr236, fr237, fr238, fr239, fr240, fr241, fr242, fr243, fr244, fr245, fr246, fr247, fr248, fr249, fr250, fr251, fr252, fr253, fr254, fr255, fr256, fr257, fr258, fr259, fr260, fr261, fr262, fr263, fr264, fr265, fr266, fr267, fr268, fr269, fr270, fr271, fr272, fr273, fr274, fr275, fr276, fr277, fr278, fr279, fr280, fr281, fr282, fr283, fr284, fr285, fr286, fr287, fr288, fr289, fr290, fr291, fr292, fr293, fr294, fr295, fr296, fr297, fr298, fr299, fr300, fr301, fr302, fr303, fr304, fr305, fr306, fr307, fr308, fr309, fr310, fr311, fr312, fr313, fr314, fr315, fr316, fr317, fr318, fr319, fr320, fr321, fr322, fr323, fr324, fr325, fr326, fr327, fr328, fr329, fr330, fr331, fr332, fr333, fr334, fr335, fr336, fr337, fr338, undef, undef, undef, undef, undef, undef, undef, undef, undef, undef, undef, undef, undef, undef, undef, undef, undef, undef, undef, undef, undef, undef, undef, undef, undef, undef, undef, undef, undef, undef, undef, undef, undef, undef, undef, undef, undef, undef, undef, undef, undef, undef, undef, undef, undef, undef, undef, undef, undef, undef, undef, undef, undef, undef, undef, undef, undef, undef, undef, undef, undef, undef, undef, undef, undef, undef, undef, undef, undef, undef, undef, undef, undef, undef, undef, undef, undef, undef, undef, undef, undef, undef, undef, undef, undef, undef, undef, undef, undef, undef, undef, undef, undef, undef, undef, undef, undef, undef, undef, undef, undef, undef, undef, undef, undef, undef, undef, undef, undef, fr448, fr449, fr450, fr451, fr452, fr453, fr454, fr455, fr456, fr457, fr458, fr459, fr460, fr461, fr462, fr463, fr464, fr465, fr466, fr467, fr468, fr469, fr470, fr471, fr472, fr473, fr474, fr475, fr476, fr477, fr478, fr479, fr480, fr481, fr482, fr483, fr484, fr485, fr486, fr487, fr488, fr489, fr490, fr491, fr492, fr493, fr494, fr495, fr496], []⟩ W := by
  by_cases h8 : (zs.length : Int) ≤ 8
  · obtain rfl : tb = true := by rw [htb]; exact decide_eq_true h8
    obtain ⟨q1, q2⟩ := HFW8.out h8
    by_cases h1 : 1 < (zs.length : Int)
    · exact HzC2b w W Kx hKx zs fl rf sh hg1 hg2 HFS HFH HRB HTB HGX HGR hfl1 hrl1 hsb AM ml cM gn fw L rd mo co s1 q1 q2 h8 h1 s3 s4 s5 s6 s7 hcb HFW HRW hHL hHR Az cz hIAz hcz hczm Af cf hIAf hcf hcfm Ar cr hIAr hcr hcrm hB _ _ _ _ _ _ _ _ _ _ _ _ _ _ _ _ _ _ _ _ _ _ _ _ _ _ _ _ _ _ _ _ _ _ _ _ _ _ _ _ _ _ _ _ _ _ _ _ _ _ _ _ _ _ _ _ _ _ _ _ _ _ _ _ _ _ _ _ _ _ _ _ _ _ _ _ _ _ _ _ _ _ _ _ _ _ _ _ _ _ _ _ _ _ _ _ _ _ _ _ _ _ _ _ _ _ _ _ _ _ _ _ _ _ _ _ _ _ _ _ _ _ _ _ _ _ _ _ _ _ _ _ _ _ _ _ _ _ _ _ _ _ _ _ _ _ _ _ _ _ _ _ _ _ _ _ _ _ _ _ _ _ _ _ _ _ _ _ _ _ _ _ _ _ _ _ _ _ _ _ _ _ _ _ _ _ _ _ _ _ _ _ _ _ _ _ _ _ _ _ _ _ _ _ _ _ _ _ _ _ _ _ _ _ _ _ _ _ _ _ _ _ _ _ _ _ _ _ _ _ _ _ _ _ _ _ _ _ _ _ _ _ _ _ _ _ _ _ _ _ _ _ _ _ _ _ _ _ _ _ _ _ _ _ _ _ _ _ _ _ _ _ _ _ _ _ _ _ _ _ _ _ _ _ _ _ _ _ _ _ _ _ _ _ _ _ _ _ _ _ _ _ _ _ _ _ _ _ _ _ _ _ _ _ _ _ _ _ _ _ _ _ _ _ _ _ _ _ _ _ _ _ _ _ _ _ _ _ _ _ _ _ _ _ _ _ _ _ _ _ _ _ _ _ _ _ _ _ _ _ _ _ _ _ _ _ _ _ _ 
    · exact HzC2a w W Kx hKx zs fl rf sh hg1 hg2 HFS HFH HRB HTB HGX HGR hfl1 hrl1 hsb AM ml cM gn fw L rd mo co s1 q1 q2 h8 h1 s3 s4 s5 s6 s7 hcb HFW HRW hHL hHR Az cz hIAz hcz hczm Af cf hIAf hcf hcfm Ar cr hIAr hcr hcrm hB _ _ _ _ _ _ _ _ _ _ _ _ _ _ _ _ _ _ _ _ _ _ _ _ _ _ _ _ _ _ _ _ _ _ _ _ _ _ _ _ _ _ _ _ _ _ _ _ _ _ _ _ _ _ _ _ _ _ _ _ _ _ _ _ _ _ _ _ _ _ _ _ _ _ _ _ _ _ _ _ _ _ _ _ _ _ _ _ _ _ _ _ _ _ _ _ _ _ _ _ _ _ _ _ _ _ _ _ _ _ _ _ _ _ _ _ _ _ _ _ _ _ _ _ _ _ _ _ _ _ _ _ _ _ _ _ _ _ _ _ _ _ _ _ _ _ _ _ _ _ _ _ _ _ _ _ _ _ _ _ _ _ _ _ _ _ _ _ _ _ _ _ _ _ _ _ _ _ _ _ _ _ _ _ _ _ _ _ _ _ _ _ _ _ _ _ _ _ _ _ _ _ _ _ _ _ _ _ _ _ _ _ _ _ _ _ _ _ _ _ _ _ _ _ _ _ _ _ _ _ _ _ _ _ _ _ _ _ _ _ _ _ _ _ _ _ _ _ _ _ _ _ _ _ _ _ _ _ _ _ _ _ _ _ _ _ _ _ _ _ _ _ _ _ _ _ _ _ _ _ _ _ _ _ _ _ _ _ _ _ _ _ _ _ _ _ _ _ _ _ _ _ _ _ _ _ _ _ _ _ _ _ _ _ _ _ _ _ _ _ _ _ _ _ _ _ _ _ _ _ _ _ _ _ _ _ _ _ _ _ _ _ _ _ _ _ _ _ _ _ _ _ _ _ _ _ _ _ _ _ _ _ _ _ _ _ _ _ _ 
  · obtain rfl : tb = false := by rw [htb]; exact decide_eq_false h8
    exact HzC2c w W Kx hKx zs fl rf sh hg1 hg2 HFS HFH HRB HTB HGX HGR hfl1 hrl1 hsb AM ml cM gn fw L rd mo co s1 (by omega) s3 s4 s5 s6 s7 hcb HFW HRW hHL hHR Az cz hIAz hcz hczm Af cf hIAf hcf hcfm Ar cr hIAr hcr hcrm hB _ _ _ _ _ _ _ _ _ _ _ _ _ _ _ _ _ _ _ _ _ _ _ _ _ _ _ _ _ _ _ _ _ _ _ _ _ _ _ _ _ _ _ _ _ _ _ _ _ _ _ _ _ _ _ _ _ _ _ _ _ _ _ _ _ _ _ _ _ _ _ _ _ _ _ _ _ _ _ _ _ _ _ _ _ _ _ _ _ _ _ _ _ _ _ _ _ _ _ _ _ _ _ _ _ _ _ _ _ _ _ _ _ _ _ _ _ _ _ _ _ _ _ _ _ _ _ _ _ _ _ _ _ _ _ _ _ _ _ _ _ _ _ _ _ _ _ _ _ _ _ _ _ _ _ _ _ _ _ _ _ _ _ _ _ _ _ _ _ _ _ _ _ _ _ _ _ _ _ _ _ _ _ _ _ _ _ _ _ _ _ _ _ _ _ _ _ _ _ _ _ _ _ _ _ _ _ _ _ _ _ _ _ _ _ _ _ _ _ _ _ _ _ _ _ _ _ _ _ _ _ _ _ _ _ _ _ _ _ _ _ _ _ _ _ _ _ _ _ _ _ _ _ _ _ _ _ _ _ _ _ _ _ _ _ _ _ _ _ _ _ _ _ _ _ _ _ _ _ _ _ _ _ _ _ _ _ _ _ _ _ _ _ _ _ _ _ _ _ _ _ _ _ _ _ _ _ _ _ _ _ _ _ _ _ _ _ _ _ _ _ _ _ _ _ _ _ _ _ _ _ _ _ _ _ _ _ _ _ _ _ _ _ _ _ _ _ _ _ _ _ _ _ _ _ _ _ _ _ _ _ _ _ _ _ _ _ _ _ 
end Go.Proofs.Ytediapekgbekeaa

/-
  heaps that can be shared.
-/
namespace Go.Proofs.Ytediapekgbekeaa
open Go.RowKit Go.Deep
set_option linter.unusedVariables false

set_option maxRecDepth 100000 in
set_option maxHeartbeats 100000000 in
theorem HzB (w W : World) (zs : List Int) (hq : eqOk zs = true) (tb : Bool) (htb : tb = decide ((zs.length : Int) ≤ 8)) (Az : Option Addr) (cz : Nat) (hIAz : Hid (Ints W W.heap.size Az zs.length zs)) (hcz : zs.length ≤ cz) (hczm : cz ≤ maxLen) (Af : Option Addr) (cf : Nat) (hIAf : Hid (Ints W W.heap.size Af (flows zs).length (flows zs))) (hcf : (flows zs).length ≤ cf) (hcfm : cf ≤ maxLen) (Ar : Option Addr) (cr : Nat) (hIAr : Hid (Ints W W.heap.size Ar (ringFlows zs).length (ringFlows zs))) (hcr : (ringFlows zs).length ≤ cr) (hcrm : cr ≤ maxLen) (AM : Option Addr) (cM : Nat) (hIM : Hid (Mos W W.heap.size AM (moves (over zs)).length (moves (over zs)))) (hB : Hid (Below w.heap.size w W)) (fr0 fr1 fr2 fr3 fr4 fr8 fr9 fr11 fr12 fr13 fr16 fr17 fr19 fr20 fr21 fr23 fr24 fr25 fr27 fr28 fr29 fr31 fr32 fr33 fr35 fr36 fr37 fr38 fr39 fr40 fr41 fr42 fr43 fr44 fr45 fr46 fr47 fr48 fr49 fr50 fr51 fr52 fr53 fr54 fr55 fr56 fr57 fr58 fr59 fr60 fr61 fr62 fr63 fr64 fr65 fr66 fr67 fr68 fr69 fr70 fr71 fr72 fr73 fr74 fr75 fr76 fr77 fr78 fr79 fr80 fr81 fr82 fr83 fr84 fr85 fr86 fr87 fr88 fr89 fr90 fr91 fr92 fr93 fr94 fr95 fr96 fr97 fr98 fr99 fr100 fr101 fr102 fr103 fr104 fr105 fr106 fr107 fr108 fr109 fr110 fr111 fr112 fr113 fr114 fr115 fr116 fr117 fr118 fr119 fr120 fr121 fr122 fr123 fr124 fr125 fr126 fr127 fr128 fr129 fr130 fr131 fr132 fr133 fr134 fr135 fr136 fr137 fr138 fr139 fr140 fr141 fr142 fr143 fr144 fr145 fr146 fr147 fr148 fr149 fr150 fr151 fr152 fr153 fr154 fr155 fr156 fr157 fr158 fr159 fr160 fr161 fr162 fr163 fr164 fr165 fr166 fr167 fr168 fr169 fr170 fr171 fr172 fr173 fr174 fr175 fr176 fr177 fr178 fr179 fr180 fr181 fr182 fr183 fr184 fr185 fr186 fr187 fr188 fr189 fr190 fr191 fr192 fr193 fr194 fr195 fr196 fr197 fr198 fr199 fr200 fr201 fr202 fr203 fr204 fr205 fr206 fr207 fr208 fr209 fr210 fr211 fr212 fr213 fr214 fr215 fr216 fr217 fr218 fr219 fr220 fr221 fr222 fr223 fr224 fr225 fr226 fr227 fr228 fr229 fr230 fr231 fr232 fr233 fr234 fr235 fr236 fr237 fr238 fr239 fr240 fr241 fr242 fr243 fr244 fr245 fr246 fr247 fr248 fr249 fr250 fr251 fr252 fr253 fr254 fr255 fr256 fr257 fr258 fr259 fr260 fr261 fr262 fr263 fr264 fr265 fr266 fr267 fr268 fr269 fr270 fr271 fr272 fr273 fr274 fr275 fr276 fr277 fr278 fr279 fr280 fr281 fr282 fr283 fr284 fr285 fr286 fr287 fr288 fr289 fr290 fr291 fr292 fr293 fr294 fr295 fr296 fr297 fr298 fr299 fr300 fr301 fr302 fr303 fr304 fr305 fr306 fr307 fr308 fr309 fr310 fr311 fr312 fr313 fr314 fr315 fr316 fr317 fr318 fr319 fr320 fr321 fr322 fr323 fr324 fr325 fr326 fr327 fr328 fr329 fr330 fr331 fr332 fr333 fr334 fr335 fr336 fr337 fr338 fr448 fr449 fr450 fr451 fr452 fr453 fr454 fr455 fr456 fr457 fr458 fr459 fr460 fr461 fr462 fr463 fr464 fr465 fr466 fr467 fr468 fr469 fr470 fr471 fr472 fr473 fr474 fr475 fr476 fr477 fr478 fr479 fr480 fr481 fr482 fr483 fr484 fr485 fr486 fr487 fr488 fr489 fr490 fr491 fr492 fr493 fr494 fr495 fr496 : Value) :
    Code.wp Try.prog (tailN 22 bodyHS) (bodyPost Try.prog Try.f3 (fun e w' => e = .returned (.bool true) ∧ Below w.heap.size w w')) ⟨#[fr0, fr1, fr2, fr3, fr4, Value.slice Az zs.length cz, Value.slice AM (moves (over zs)).length cM, Value.bool true, fr8, fr9, Value.int .i64 (gainN zs), fr11, fr12, fr13, Value.int .i64 (fewN zs), Value.bool tb, fr16, fr17, Value.int .i64 (sizes (flows zs)), fr19, fr20, fr21, Value.slice Af (flows zs).length cf, fr23, fr24, fr25, Value.int .i64 (sizes (ringFlows zs)), fr27, fr28, fr29, Value.slice Ar (ringFlows zs).length cr, fr31, fr32, fr33, Value.int .i64 (most (flows zs)), fr35, fr36, fr37, fr38, fr39, fr40, fr41, fr42, fr43, fr44, fr45, fr46, fr47, fr48, fr49, fr50, fr51, fr52, fr53, fr54, fr55, fr56, fr57, fr58, fr59, fr60, fr61, fr62, fr63, fr64, fr65, fr66, fr67, fr68, fr69, fr70, fr71, fr72, fr73, fr74, fr75, fr76, fr77, fr78, fr79, fr80, fr81, fr82, fr83, fr84, fr85, fr86, fr87, fr88, fr89, fr90, fr91, fr92, fr93, fr94, fr95, fr96, fr97, fr98, fr99, fr100, fr101, fr102, fr103, fr104, fr105, fr106, fr107, fr108, fr109, fr110, fr111, fr112, fr113, fr114, fr115, fr116, fr117, fr118, fr119, fr120, fr121, fr122, fr123, fr124, fr125, fr126, fr127, fr128, fr129, fr130, fr131, fr132, fr133, fr134, fr135, fr136, fr137, fr138, fr139, fr140, fr141, fr142, fr143, fr144, fr145, fr146, fr147, fr148, fr149, fr150, fr151, fr152, fr153, fr154, fr155, fr156, fr157, fr158, fr159, fr160, fr161, fr162, fr163, fr164, fr165, fr166, fr167, fr168, fr169, fr170, fr171, fr172, fr173, fr174, fr175, fr176, fr177, fr178, fr179, fr180, fr181, fr182, fr183, fr184, fr185, fr186, fr187, fr188, fr189, fr190, fr191, fr192, fr193, fr194, fr195, fr196, fr197, fr198, fr199, fr200, fr201, fr202, fr203, fr204, fr205, fr206, fr207, fr208, fr209, fr210, fr211, fr212, fr213, fr214, fr215, fr216, fr217, fr218, fr219, fr220, fr221, fr222, fr223, fr224, fr225, fr226, fr227, fr228, fr229, fr230, fr231, fr232, fr233, fr234, fr235, fr236, fr237, fr238, fr239, fr240, fr241, fr242, fr243, fr244, fr245, fr246, fr247, fr248, fr249, fr250, fr251, fr252, fr253, fr254, fr255, fr256, fr257, fr258, fr259, fr260, fr261, fr262, fr263, fr264, fr265, fr266, fr267, fr268, fr269, fr270, fr271, fr272, fr273, fr274, fr275, fr276, fr277, fr278, fr279, fr280, fr281, fr282, fr283, fr284, fr285, fr286, fr287, fr288, fr289, fr290, fr291, fr292, fr293, fr294, fr295, fr296, fr297, fr298, fr299, fr300, fr301, fr302, fr303, fr304, fr305, fr306, fr307, fr308, fr309, fr310, fr311, fr312, fr313, fr314, fr315, fr316, fr317, fr318, fr319, fr320, fr321, fr322, fr323, fr324, fr325, fr326, fr327, fr328, fr329, fr330, fr331, fr332, fr333, fr334, fr335, fr336, fr337, fr338, undef, undef, undef, undef, undef, undef, undef, undef, undef, undef, undef, undef, undef, undef, undef, undef, undef, undef, undef, undef, undef, undef, undef, undef, undef, undef, undef, undef, undef, undef, undef, undef, undef, undef, undef, undef, undef, undef, undef, undef, undef, undef, undef, undef, undef, undef, undef, undef, undef, undef, undef, undef, undef, undef, undef, undef, undef, undef, undef, undef, undef, undef, undef, undef, undef, undef, undef, undef, undef, undef, undef, undef, undef, undef, undef, undef, undef, undef, undef, undef, undef, undef, undef, undef, undef, undef, undef, undef, undef, undef, undef, undef, undef, undef, undef, undef, undef, undef, undef, undef, undef, undef, undef, undef, undef, undef, undef, undef, undef, fr448, fr449, fr450, fr451, fr452, fr453, fr454, fr455, fr456, fr457, fr458, fr459, fr460, fr461, fr462, fr463, fr464, fr465, fr466, fr467, fr468, fr469, fr470, fr471, fr472, fr473, fr474, fr475, fr476, fr477, fr478, fr479, fr480, fr481, fr482, fr483, fr484, fr485, fr486, fr487, fr488, fr489, fr490, fr491, fr492, fr493, fr494, fr495, fr496], []⟩ W := by
  conv => arg 2; whnf
  try conv => arg 2; simp only [List.append_eq, List.cons_append, List.nil_append]
  have hg := eqOk_good hq
  have hf : fewOk zs = decide ((zs.length : Int) ≤ 8) := by rw [fewOk_at hq]; congr 1; exact propext (by omega)
  obtain ⟨hg1, hg2, _⟩ := good_of hg
  obtain ⟨m1, m2, m3, m4⟩ := moves_play hq
  obtain ⟨s1, s2, s3, s4, s5, s6, s7, s8⟩ := shared hq
  have hcap : zs.length ≤ 17592186044416 := by omega
  have hsl : shareN zs = shareEq zs ∧ leftN zs = 0 := by
    rw [shareN_yes hg, shareEq_yes hq, leftN_yes hg]
    unfold eqOk at hq
    simp at hq
    exact ⟨rfl, by simpa using hq.2⟩
  have HE := hide (fun W' (h : Ints W' W'.heap.size Az zs.length zs) => EqualShare_any Az zs.length cz W'.heap.size zs W' h hcap)
  rw [hg, hsl.1, hsl.2] at HE
  have HPM := hide (fun W' (h : Ints W' W'.heap.size Az zs.length zs) (hm : Mvs W' W'.heap.size AM (moves (over zs)).length ((moves (over zs)).map asMv)) => PlayMoves_any Az AM zs.length cz (moves (over zs)).length cM W'.heap.size W'.heap.size zs ((moves (over zs)).map asMv) W' h (Nat.le_refl _) hcap hm (Nat.le_refl _) (by omega))
  rw [m1, m2] at HPM
  have hsb := shareEq_bd hq
  have hss := spread_same hg1 hg2 hsb
  have HFH := hide (fun k hk => flow_here zs k hk)
  have HFS := hide (fun k hk => flow_step hq k hk)
  have HRB := hide (fun k hk => ring_back hq k hk)
  have HTB := hide (fun k => over_tot_bd hg k)
  have HGX := hide (fun k (hk : k < zs.length) => (show 0 ≤ zs.getD k 0 ∧ zs.getD k 0 ≤ 1000 from by
    rw [show zs.getD k 0 = zs[k] from by simp [List.getD, hk]]; exact good_get hg k hk))
  have hrs := ringFlows_small hg
  have HGR := hide (fun k (hk : k < zs.length) => (show -1000000000 ≤ (ringFlows zs).getD k 0 ∧ (ringFlows zs).getD k 0 ≤ 1000000000 from by
    have h : k < (ringFlows zs).length := by rw [hrs.2]; exact hk
    rw [show (ringFlows zs).getD k 0 = (ringFlows zs)[k] from by simp [List.getD, h]]
    exact within_get hrs.1 k h))
  have HFW := hide (flows_small hg)
  have HRW := hide hrs.1
  have hfl1 := hide (flows_length zs)
  have hrl1 := hide hrs.2
  have hcb := costs_bd ((moves (over zs)).map asMv) (by have := s2; unfold costOk at this; simp at this; simpa using this.2)
  rw [List.length_map] at hcb
  have hco := costN_yes s2
  have hfw : (zs.length : Int) ≤ 8 → 0 ≤ fewN zs ∧ fewN zs ≤ (moves (over zs)).length := fun h8 => by
    have h8' : zs.length ≤ 8 := by omega
    rw [fewN_yes (by rw [hf]; simpa using h8)]
    exact s8 h8'
  have hgb : 0 ≤ gainN zs := by
    have := carried_part _ m4 0
    rw [m3] at this
    simp [carried] at this
    exact this
  have HCB : Hid (∀ k, k ≤ (moves (over zs)).length → 0 ≤ carried ((moves (over zs)).take k) ∧ carried ((moves (over zs)).take k) ≤ 1000000000) := hide (fun k _ => by
    have := carried_part _ m4 k
    rw [m3] at this
    omega)
  have HM3 := hide m3
  have HFW8 := hide hfw
  have hms : (moves (over zs)).length ≤ 20 := by omega
  have HCM := hide (fun W' (h : Mvs W' W'.heap.size AM (moves (over zs)).length ((moves (over zs)).map asMv)) => CostOfMoves_any AM (moves (over zs)).length cM W'.heap.size ((moves (over zs)).map asMv) W' h (Nat.le_refl _) (by omega))
  rw [s2, hco] at HCM
  have HSPR := hide (fun W' A c (h : Ints W' W'.heap.size A zs.length (List.replicate zs.length (shareEq zs))) => SpreadOf_any A zs.length c W'.heap.size (List.replicate zs.length (shareEq zs)) W' h hcap)
  rw [hss.1, hss.2] at HSPR
  clear m1 m2 m3 m4 hsl s2 s8 hrs hco hfw hss
  generalize moves (over zs) = ms at *
  generalize gainN zs = gn at *
  generalize shareEq zs = sh at *
  generalize fewN zs = fw at *
  generalize flows zs = fl at *
  generalize ringFlows zs = rf at *
  generalize hco : costs (ms.map asMv) = co at *
  clear hco
  generalize hL : sizes fl = L at *
  generalize hR : sizes rf = rd at *
  generalize most fl = mo at *
  have hHL := hide hL
  have hHR := hide hR
  clear hL hR
  have HCT := hide (fun k hk => carried_take ms k hk)
  subst htb
  clear hf hq hg
  refine wp_seq_k (fun Kx hKx0 => ?_)
  have hKx : ∀ a w', Code.wp Try.prog (tailN 23 bodyHS) (bodyPost Try.prog Try.f3 (fun e w' => e = .returned (.bool true) ∧ Below w.heap.size w w')) a w' → Kx a w' := hKx0
  have HKX := hide hKx
  clear hKx hKx0
  refine wp_seq_k (fun K1 hK1 => ?_)
  have HK1 := hide hK1
  clear hK1
  go_wp2_with fail
  refine HK1.out _ _ ?_
  clear HK1
  refine wp_cond_true (by rfl) ?_
  refine wp_seq_k (fun K hK => ?_)
  have HK := hide hK
  clear hK
  go_wp2_with fail
  refine (HPM.out _ hIAz.out (mos_mvs hIM.out)).mono ?_; rintro e w1 ⟨AE, cE, he, _, _, hO, hb⟩
  rw [List.length_replicate] at he; subst he
  have hE := hO.ints; rw [List.length_replicate] at hE
  have B1 := hide hb
  replace hIAz := hide ((hIAz.out.below hb (Nat.le_refl _)).more (hb).size)
  replace hIAf := hide ((hIAf.out.below hb (Nat.le_refl _)).more (hb).size)
  replace hIAr := hide ((hIAr.out.below hb (Nat.le_refl _)).more (hb).size)
  replace hIM := hide ((hIM.out.below hb (Nat.le_refl _)).more (hb).size)
  have hIE := hide hE
  clear hO hE hb
  go_wp2_with fail
  refine HK.out _ _ ?_
  clear HK
  refine wp_seq_k (fun K hK => ?_)
  have HK := hide hK
  clear hK
  go_wp2_with fail
  refine (HSPR.out _ _ _ hIE.out).mono ?_; rintro e _ ⟨rfl, rfl⟩
  clear hIE HSPR HPM
  go_wp2_with fail
  refine HK.out _ _ ?_
  clear HK
  refine wp_seq_k (fun K hK => ?_)
  have HK := hide hK
  clear hK
  go_wp2_with fail
  refine (HE.out _ hIAz.out).mono ?_; rintro e w2 ⟨rfl, dm, rfl⟩
  have hb : Below w1.heap.size w1 (w1.drewN dm) := below_drewN (Below.refl _ _) dm
  generalize w1.drewN dm = w2 at *
  have B2 := hide (below_next B1.out hb)
  replace hIAz := hide ((hIAz.out.below hb (Nat.le_refl _)).more (hb).size)
  replace hIAf := hide ((hIAf.out.below hb (Nat.le_refl _)).more (hb).size)
  replace hIAr := hide ((hIAr.out.below hb (Nat.le_refl _)).more (hb).size)
  replace hIM := hide ((hIM.out.below hb (Nat.le_refl _)).more (hb).size)
  clear B1
  clear hb
  go_wp2_with fail
  refine HK.out _ _ ?_
  clear HK
  refine wp_seq_k (fun K hK => ?_)
  have HK := hide hK
  clear hK
  go_wp2_with fail
  refine (HCM.out _ (mos_mvs hIM.out)).mono ?_; rintro e w3 ⟨rfl, hb⟩
  have B3 := hide (below_next B2.out hb)
  replace hIAz := hide ((hIAz.out.below hb (Nat.le_refl _)).more (hb).size)
  replace hIAf := hide ((hIAf.out.below hb (Nat.le_refl _)).more (hb).size)
  replace hIAr := hide ((hIAr.out.below hb (Nat.le_refl _)).more (hb).size)
  replace hIM := hide ((hIM.out.below hb (Nat.le_refl _)).more (hb).size)
  clear B2
  clear hb
  go_wp2_with fail
  refine HK.out _ _ ?_
  clear HK
  clear HE HCM
  refine wp_seq_k (fun K hK => ?_)
  have HK := hide hK
  clear hK
  go_wp2_with fail
  refine HK.out _ _ ?_
  clear HK
  refine wp_seq_k (fun K hK => ?_)
  have HK := hide (show ∀ a w', Code.wp Try.prog (tailN 6 innerHS) (Exit.then Kx (bodyPost Try.prog Try.f3 (fun e w' => e = .returned (.bool true) ∧ Below w.heap.size w w'))) a w' → K a w' from hK)
  clear hK
  go_wp2_with fail
  go_loopw [51, 330] (fun v i W' => ∃ k : Nat, k ≤ ms.length ∧ i = .int .i64 k ∧ v = .int .i64 (carried (ms.take k)) ∧ Hid (Below w3.heap.size w3 W'))
    (fun _ i _ => ms.length - (intOf i).toNat)
  case atStart => exact ⟨0, Nat.zero_le _, rfl, by simp [carried], hide (Below.refl _ _)⟩
  case round =>
    obtain ⟨k, hk, rfl, rfl, HB⟩ := hrel
    by_cases hlt : k < ms.length
    · have HC1 := hide (HCT.out k hlt)
      have hb0 := HCB.out k hk
      have hb1 := HCB.out (k + 1) hlt
      rw [HC1.out] at hb1
      obtain ⟨b, off, rfl, hbb, k0, k1, k2⟩ := (hIM.out.below HB.out (Nat.le_refl _)).at_ hlt hlt
      have HB1 := hide (HB.out.alloc HB.out.size (.cells #[.int .i64 ms[k].x0, .int .i64 ms[k].x1, .int .i64 ms[k].x2] 43))
      generalize ms[k] = m at *
      obtain ⟨mf, mt, mc⟩ := m
      simp only at k0 k1 k2 hb1 HC1 HB1
      generalize carried (ms.take k) = cr at *
      go_wp2_with fail
      go_roundw
      case rel => exact ⟨k + 1, by omega, by go_num, by rw [HC1.out], HB1⟩
      case measure => simp [intOf]; omega
    · obtain rfl : k = ms.length := by omega
      rw [List.take_of_length_le (Nat.le_refl _), HM3.out]
      have BX := hide (below_next B3.out HB.out)
      have FX := hide (hIAf.out.below HB.out (Nat.le_refl _))
      have RX := hide (hIAr.out.below HB.out (Nat.le_refl _))
      have ZX := hide (hIAz.out.below HB.out (Nat.le_refl _))
      have HBW := hide (hB.out.trans (BX.out.mono hB.out.size))
      go_wp2_with fail
      refine HK.out _ _ ?_
      exact HzC2 w _ Kx HKX.out zs fl rf sh hg1 hg2 HFS HFH HRB HTB HGX HGR hfl1 hrl1 hsb AM ms.length cM gn fw L rd mo co _ rfl s1 HFW8 hgb s3 s4 s5 s6 s7 hcb HFW HRW hHL hHR Az cz (hide (ZX.out.more HB.out.size)) hcz hczm Af cf (hide (FX.out.more HB.out.size)) hcf hcfm Ar cr (hide (RX.out.more HB.out.size)) hcr hcrm HBW _ _ _ _ _ _ _ _ _ _ _ _ _ _ _ _ _ _ _ _ _ _ _ _ _ _ _ _ _ _ _ _ _ _ _ _ _ _ _ _ _ _ _ _ _ _ _ _ _ _ _ _ _ _ _ _ _ _ _ _ _ _ _ _ _ _ _ _ _ _ _ _ _ _ _ _ _ _ _ _ _ _ _ _ _ _ _ _ _ _ _ _ _ _ _ _ _ _ _ _ _ _ _ _ _ _ _ _ _ _ _ _ _ _ _ _ _ _ _ _ _ _ _ _ _ _ _ _ _ _ _ _ _ _ _ _ _ _ _ _ _ _ _ _ _ _ _ _ _ _ _ _ _ _ _ _ _ _ _ _ _ _ _ _ _ _ _ _ _ _ _ _ _ _ _ _ _ _ _ _ _ _ _ _ _ _ _ _ _ _ _ _ _ _ _ _ _ _ _ _ _ _ _ _ _ _ _ _ _ _ _ _ _ _ _ _ _ _ _ _ _ _ _ _ _ _ _ _ _ _ _ _ _ _ _ _ _ _ _ _ _ _ _ _ _ _ _ _ _ _ _ _ _ _ _ _ _ _ _ _ _ _ _ _ _ _ _ _ _ _ _ _ _ _ _ _ _ _ _ _ _ _ _ _ _ _ _ _ _ _ _ _ _ _ _ _ _ _ _ _ _ _ _ _ _ _ _ _ _ _ _ _ _ _ _ _ _ _ _ _ _ _ _ _ _ _ _ _ _ _ _ _ _ _ _ _ _ _ _ _ _ _ _ _ _ _ _ _ _ _ _ _ _ _ _ _ _ _ _ _ _ _ _ _ _ _ _ _ _ 
end Go.Proofs.Ytediapekgbekeaa

/-
  the first condition.
-/
namespace Go.Proofs.Ytediapekgbekeaa
open Go.RowKit Go.Deep
set_option linter.unusedVariables false

set_option maxRecDepth 100000 in
set_option maxHeartbeats 100000000 in
theorem HzGa (w W : World) (zs : List Int) (ml : List Mo) (fl rf : List Int) (gn fw L rd mo : Int) (hl : Hid (ml.length ≤ 20 ∧ fl.length ≤ 12 ∧ rf.length ≤ 12)) (h20 : zs.length ≤ 20) (hg : good zs = false) (Az : Option Addr) (cz : Nat) (hIAz : Hid (Ints W W.heap.size Az zs.length zs)) (hcz : zs.length ≤ cz) (hczm : cz ≤ maxLen) (Af : Option Addr) (cf : Nat) (hIAf : Hid (Ints W W.heap.size Af fl.length fl)) (hcf : fl.length ≤ cf) (hcfm : cf ≤ maxLen) (Ag : Option Addr) (cg : Nat) (hIAg : Hid (Ints W W.heap.size Ag fl.length fl)) (hcg : fl.length ≤ cg) (hcgm : cg ≤ maxLen) (Ar : Option Addr) (cr : Nat) (hIAr : Hid (Ints W W.heap.size Ar rf.length rf)) (hcr : rf.length ≤ cr) (hcrm : cr ≤ maxLen) (As : Option Addr) (cs : Nat) (hIAs : Hid (Ints W W.heap.size As rf.length rf)) (hcs : rf.length ≤ cs) (hcsm : cs ≤ maxLen) (AM AN : Option Addr) (cM cN : Nat) (hIM : Hid (Mos W W.heap.size AM ml.length ml)) (hIN : Hid (Mos W W.heap.size AN ml.length ml)) (hB : Hid (Below w.heap.size w W)) (fr0 fr1 fr2 fr3 fr4 fr42 fr43 fr44 fr45 fr46 fr47 fr48 fr49 fr50 fr51 fr52 fr53 fr54 fr55 fr56 fr57 fr58 fr59 fr60 fr61 fr62 fr63 fr64 fr65 fr66 fr67 fr68 fr69 fr70 fr71 fr72 fr73 fr74 fr75 fr76 fr77 fr78 fr79 fr80 fr81 fr82 fr83 fr84 fr85 fr86 fr87 fr88 fr89 fr90 fr91 fr92 fr93 fr94 fr95 fr96 fr97 fr98 fr99 fr100 fr101 fr102 fr103 fr104 fr105 fr106 fr107 fr108 fr109 fr110 fr111 fr112 fr113 fr114 fr115 fr116 fr117 fr118 fr119 fr120 fr121 fr122 fr123 fr124 fr125 fr126 fr127 fr128 fr129 fr130 fr131 fr132 fr133 fr134 fr135 fr136 fr137 fr138 fr139 fr140 fr141 fr142 fr143 fr144 fr145 fr146 fr147 fr148 fr149 fr150 fr151 fr152 fr305 fr306 fr307 fr308 fr309 fr310 fr311 fr312 fr313 fr314 fr315 fr316 fr317 fr318 fr319 fr320 fr321 fr322 fr323 fr324 fr325 fr326 fr327 fr328 fr329 fr330 fr331 fr332 fr333 fr334 fr335 fr336 fr337 fr338 fr448 fr449 fr450 fr451 fr452 fr453 fr454 fr455 fr456 fr457 fr458 fr459 fr460 fr461 fr462 fr463 fr464 fr465 fr466 fr467 fr468 fr469 fr470 fr471 fr472 fr473 fr474 fr475 fr476 fr477 fr478 fr479 fr480 fr481 fr482 fr483 fr484 fr485 fr486 fr487 fr488 fr489 fr490 fr491 fr492 fr493 fr494 fr495 fr496 : Value) :
    Code.wp Try.prog (tailN 21 bodyHS) (bodyPost Try.prog Try.f3 (fun e w' => e = .returned (.bool true) ∧ Below w.heap.size w w')) ⟨#[fr0, fr1, fr2, fr3, fr4, Value.slice Az zs.length cz, Value.slice AM ml.length cM, Value.bool false, Value.slice AN ml.length cN, Value.bool false, Value.int .i64 gn, Value.bool false, Value.int .i64 gn, Value.bool false, Value.int .i64 fw, Value.bool false, Value.int .i64 fw, Value.bool false, Value.int .i64 L, Value.bool false, Value.int .i64 L, Value.bool false, Value.slice Af fl.length cf, Value.bool false, Value.slice Ag fl.length cg, Value.bool false, Value.int .i64 rd, Value.bool false, Value.int .i64 rd, Value.bool false, Value.slice Ar rf.length cr, Value.bool false, Value.slice As rf.length cs, Value.bool false, Value.int .i64 mo, Value.bool false, Value.int .i64 mo, Value.bool false, Value.bool false, Value.bool false, Value.bool false, Value.bool false, fr42, fr43, fr44, fr45, fr46, fr47, fr48, fr49, fr50, fr51, fr52, fr53, fr54, fr55, fr56, fr57, fr58, fr59, fr60, fr61, fr62, fr63, fr64, fr65, fr66, fr67, fr68, fr69, fr70, fr71, fr72, fr73, fr74, fr75, fr76, fr77, fr78, fr79, fr80, fr81, fr82, fr83, fr84, fr85, fr86, fr87, fr88, fr89, fr90, fr91, fr92, fr93, fr94, fr95, fr96, fr97, fr98, fr99, fr100, fr101, fr102, fr103, fr104, fr105, fr106, fr107, fr108, fr109, fr110, fr111, fr112, fr113, fr114, fr115, fr116, fr117, fr118, fr119, fr120, fr121, fr122, fr123, fr124, fr125, fr126, fr127, fr128, fr129, fr130, fr131, fr132, fr133, fr134, fr135, fr136, fr137, fr138, fr139, fr140, fr141, fr142, fr143, fr144, fr145, fr146, fr147, fr148, fr149, fr150, fr151, fr152, undef, undef, undef, undef, undef, undef, undef, undef, undef, undef, undef, undef, undef, undef, undef, undef, undef, undef, undef, undef, undef, undef, undef, undef, undef, undef, undef, undef, undef, undef, undef, undef, undef, undef, undef, undef, undef, undef, undef, undef, undef, undef, undef, undef, undef, undef, undef, undef, undef, undef, undef, undef, undef, undef, undef, undef, undef, undef, undef, undef, undef, undef, undef, undef, undef, undef, undef, undef, undef, undef, undef, undef, undef, undef, undef, undef, undef, undef, undef, undef, undef, undef, undef, undef, undef, undef, undef, undef, undef, undef, undef, undef, undef, undef, undef, undef, undef, undef, undef, undef, undef, undef, undef, undef, undef, undef, undef, undef, undef, undef, undef, undef, undef, undef, undef, undef, undef, undef, undef, undef, undef, undef, undef, undef, undef, undef, undef, undef, undef, undef, undef, undef, undef, undef, undef, undef, undef, undef, undef, undef, undef, undef, undef, undef, undef, undef, undef, undef, undef, undef, undef, undef, fr305, fr306, fr307, fr308, fr309, fr310, fr311, fr312, fr313, fr314, fr315, fr316, fr317, fr318, fr319, fr320, fr321, fr322, fr323, fr324, fr325, fr326, fr327, fr328, fr329, fr330, fr331, fr332, fr333, fr334, fr335, fr336, fr337, fr338, undef, undef, undef, undef, undef, undef, undef, undef, undef, undef, undef, undef, undef, undef, undef, undef, undef, undef, undef, undef, undef, undef, undef, undef, undef, undef, undef, undef, undef, undef, undef, undef, undef, undef, undef, undef, undef, undef, undef, undef, undef, undef, undef, undef, undef, undef, undef, undef, undef, undef, undef, undef, undef, undef, undef, undef, undef, undef, undef, undef, undef, undef, undef, undef, undef, undef, undef, undef, undef, undef, undef, undef, undef, undef, undef, undef, undef, undef, undef, undef, undef, undef, undef, undef, undef, undef, undef, undef, undef, undef, undef, undef, undef, undef, undef, undef, undef, undef, undef, undef, undef, undef, undef, undef, undef, undef, undef, undef, undef, fr448, fr449, fr450, fr451, fr452, fr453, fr454, fr455, fr456, fr457, fr458, fr459, fr460, fr461, fr462, fr463, fr464, fr465, fr466, fr467, fr468, fr469, fr470, fr471, fr472, fr473, fr474, fr475, fr476, fr477, fr478, fr479, fr480, fr481, fr482, fr483, fr484, fr485, fr486, fr487, fr488, fr489, fr490, fr491, fr492, fr493, fr494, fr495, fr496], []⟩ W := by
  conv => arg 2; whnf
  try conv => arg 2; simp only [List.append_eq, List.cons_append, List.nil_append]
  refine wp_seq_k (fun K hK => ?_)
  have HK := hide (show ∀ a w', Code.wp Try.prog (tailN 22 bodyHS) (bodyPost Try.prog Try.f3 (fun e w' => e = .returned (.bool true) ∧ Below w.heap.size w w')) a w' → K a w' from hK)
  clear hK
  have hcap : zs.length ≤ 17592186044416 := by omega
  have HA := hide (fun W' B (h : Ints W' B Az zs.length zs) => AreHeaps_any Az zs.length cz B zs W' h hcap)
  have HAs := hide (fun W' B (h : Ints W' B Az zs.length zs) => specAreHeaps_any Az zs.length cz B zs W' h hcap)
  rw [hg] at HA HAs
  clear hg
  have hgn := neq_same gn
  have hfw := neq_same fw
  have hL := neq_same L
  have hrd := neq_same rd
  have hmo := neq_same mo
  go_wp2_with fail
  refine (kMoves_same _ _ _ _ _ _ _ _ _ hIM.out hIN.out (Nat.le_refl _) (Nat.le_refl _) (by have := hl.out; omega)).mono ?_; rintro e w1 ⟨rfl, hb⟩
  have B1 := hide hb
  replace hIAz := hide ((hIAz.out.below hb (Nat.le_refl _)).more (hb).size)
  replace hIAf := hide ((hIAf.out.below hb (Nat.le_refl _)).more (hb).size)
  replace hIAg := hide ((hIAg.out.below hb (Nat.le_refl _)).more (hb).size)
  replace hIAr := hide ((hIAr.out.below hb (Nat.le_refl _)).more (hb).size)
  replace hIAs := hide ((hIAs.out.below hb (Nat.le_refl _)).more (hb).size)
  replace hIM := hide ((hIM.out.below hb (Nat.le_refl _)).more (hb).size)
  replace hIN := hide ((hIN.out.below hb (Nat.le_refl _)).more (hb).size)
  clear hb
  go_wp2_with fail
  refine (kSame_same _ _ _ _ _ _ _ _ _ hIAf.out hIAg.out (Nat.le_refl _) (Nat.le_refl _) (by have := hl.out; omega)).mono ?_; rintro e w2 ⟨rfl, hb⟩
  have B2 := hide (below_next B1.out hb)
  replace hIAz := hide ((hIAz.out.below hb (Nat.le_refl _)).more (hb).size)
  replace hIAf := hide ((hIAf.out.below hb (Nat.le_refl _)).more (hb).size)
  replace hIAg := hide ((hIAg.out.below hb (Nat.le_refl _)).more (hb).size)
  replace hIAr := hide ((hIAr.out.below hb (Nat.le_refl _)).more (hb).size)
  replace hIAs := hide ((hIAs.out.below hb (Nat.le_refl _)).more (hb).size)
  replace hIM := hide ((hIM.out.below hb (Nat.le_refl _)).more (hb).size)
  replace hIN := hide ((hIN.out.below hb (Nat.le_refl _)).more (hb).size)
  clear B1
  clear hb
  go_wp2_with fail
  refine (kSame_same _ _ _ _ _ _ _ _ _ hIAr.out hIAs.out (Nat.le_refl _) (Nat.le_refl _) (by have := hl.out; omega)).mono ?_; rintro e w3 ⟨rfl, hb⟩
  have B3 := hide (below_next B2.out hb)
  replace hIAz := hide ((hIAz.out.below hb (Nat.le_refl _)).more (hb).size)
  replace hIAf := hide ((hIAf.out.below hb (Nat.le_refl _)).more (hb).size)
  replace hIAg := hide ((hIAg.out.below hb (Nat.le_refl _)).more (hb).size)
  replace hIAr := hide ((hIAr.out.below hb (Nat.le_refl _)).more (hb).size)
  replace hIAs := hide ((hIAs.out.below hb (Nat.le_refl _)).more (hb).size)
  replace hIM := hide ((hIM.out.below hb (Nat.le_refl _)).more (hb).size)
  replace hIN := hide ((hIN.out.below hb (Nat.le_refl _)).more (hb).size)
  clear B2
  clear hb
  go_wp2_with fail
  refine (HA.out _ _ hIAz.out).mono ?_; rintro e _ ⟨rfl, rfl⟩
  go_wp2_with fail
  refine (HA.out _ _ hIAz.out).mono ?_; rintro e _ ⟨rfl, rfl⟩
  go_wp2_with fail
  refine (HAs.out _ _ hIAz.out).mono ?_; rintro e _ ⟨rfl, rfl⟩
  go_wp2_with fail
  refine HK.out _ _ ?_
  conv => arg 2; whnf
  go_wp2_with fail
  go_ret
  exact ⟨rfl, hB.out.trans (B3.out.mono hB.out.size)⟩
end Go.Proofs.Ytediapekgbekeaa

/-
  the first condition.
-/
namespace Go.Proofs.Ytediapekgbekeaa
open Go.RowKit Go.Deep
set_option linter.unusedVariables false

set_option maxRecDepth 100000 in
set_option maxHeartbeats 100000000 in
theorem HzGb (w W : World) (zs : List Int) (ml : List Mo) (fl rf : List Int) (gn fw L rd mo : Int) (hl : Hid (ml.length ≤ 20 ∧ fl.length ≤ 12 ∧ rf.length ≤ 12)) (h20 : zs.length ≤ 20) (hg : good zs = true) (Az : Option Addr) (cz : Nat) (hIAz : Hid (Ints W W.heap.size Az zs.length zs)) (hcz : zs.length ≤ cz) (hczm : cz ≤ maxLen) (Af : Option Addr) (cf : Nat) (hIAf : Hid (Ints W W.heap.size Af fl.length fl)) (hcf : fl.length ≤ cf) (hcfm : cf ≤ maxLen) (Ag : Option Addr) (cg : Nat) (hIAg : Hid (Ints W W.heap.size Ag fl.length fl)) (hcg : fl.length ≤ cg) (hcgm : cg ≤ maxLen) (Ar : Option Addr) (cr : Nat) (hIAr : Hid (Ints W W.heap.size Ar rf.length rf)) (hcr : rf.length ≤ cr) (hcrm : cr ≤ maxLen) (As : Option Addr) (cs : Nat) (hIAs : Hid (Ints W W.heap.size As rf.length rf)) (hcs : rf.length ≤ cs) (hcsm : cs ≤ maxLen) (AM AN : Option Addr) (cM cN : Nat) (hIM : Hid (Mos W W.heap.size AM ml.length ml)) (hIN : Hid (Mos W W.heap.size AN ml.length ml)) (hB : Hid (Below w.heap.size w W)) (fr0 fr1 fr2 fr3 fr4 fr42 fr43 fr44 fr45 fr46 fr47 fr48 fr49 fr50 fr51 fr52 fr53 fr54 fr55 fr56 fr57 fr58 fr59 fr60 fr61 fr62 fr63 fr64 fr65 fr66 fr67 fr68 fr69 fr70 fr71 fr72 fr73 fr74 fr75 fr76 fr77 fr78 fr79 fr80 fr81 fr82 fr83 fr84 fr85 fr86 fr87 fr88 fr89 fr90 fr91 fr92 fr93 fr94 fr95 fr96 fr97 fr98 fr99 fr100 fr101 fr102 fr103 fr104 fr105 fr106 fr107 fr108 fr109 fr110 fr111 fr112 fr113 fr114 fr115 fr116 fr117 fr118 fr119 fr120 fr121 fr122 fr123 fr124 fr125 fr126 fr127 fr128 fr129 fr130 fr131 fr132 fr133 fr134 fr135 fr136 fr137 fr138 fr139 fr140 fr141 fr142 fr143 fr144 fr145 fr146 fr147 fr148 fr149 fr150 fr151 fr152 fr305 fr306 fr307 fr308 fr309 fr310 fr311 fr312 fr313 fr314 fr315 fr316 fr317 fr318 fr319 fr320 fr321 fr322 fr323 fr324 fr325 fr326 fr327 fr328 fr329 fr330 fr331 fr332 fr333 fr334 fr335 fr336 fr337 fr338 fr448 fr449 fr450 fr451 fr452 fr453 fr454 fr455 fr456 fr457 fr458 fr459 fr460 fr461 fr462 fr463 fr464 fr465 fr466 fr467 fr468 fr469 fr470 fr471 fr472 fr473 fr474 fr475 fr476 fr477 fr478 fr479 fr480 fr481 fr482 fr483 fr484 fr485 fr486 fr487 fr488 fr489 fr490 fr491 fr492 fr493 fr494 fr495 fr496 : Value) :
    Code.wp Try.prog (tailN 21 bodyHS) (bodyPost Try.prog Try.f3 (fun e w' => e = .returned (.bool true) ∧ Below w.heap.size w w')) ⟨#[fr0, fr1, fr2, fr3, fr4, Value.slice Az zs.length cz, Value.slice AM ml.length cM, Value.bool false, Value.slice AN ml.length cN, Value.bool false, Value.int .i64 gn, Value.bool false, Value.int .i64 gn, Value.bool false, Value.int .i64 fw, Value.bool false, Value.int .i64 fw, Value.bool false, Value.int .i64 L, Value.bool false, Value.int .i64 L, Value.bool false, Value.slice Af fl.length cf, Value.bool false, Value.slice Ag fl.length cg, Value.bool false, Value.int .i64 rd, Value.bool false, Value.int .i64 rd, Value.bool false, Value.slice Ar rf.length cr, Value.bool false, Value.slice As rf.length cs, Value.bool false, Value.int .i64 mo, Value.bool false, Value.int .i64 mo, Value.bool false, Value.bool false, Value.bool true, Value.bool false, Value.bool true, fr42, fr43, fr44, fr45, fr46, fr47, fr48, fr49, fr50, fr51, fr52, fr53, fr54, fr55, fr56, fr57, fr58, fr59, fr60, fr61, fr62, fr63, fr64, fr65, fr66, fr67, fr68, fr69, fr70, fr71, fr72, fr73, fr74, fr75, fr76, fr77, fr78, fr79, fr80, fr81, fr82, fr83, fr84, fr85, fr86, fr87, fr88, fr89, fr90, fr91, fr92, fr93, fr94, fr95, fr96, fr97, fr98, fr99, fr100, fr101, fr102, fr103, fr104, fr105, fr106, fr107, fr108, fr109, fr110, fr111, fr112, fr113, fr114, fr115, fr116, fr117, fr118, fr119, fr120, fr121, fr122, fr123, fr124, fr125, fr126, fr127, fr128, fr129, fr130, fr131, fr132, fr133, fr134, fr135, fr136, fr137, fr138, fr139, fr140, fr141, fr142, fr143, fr144, fr145, fr146, fr147, fr148, fr149, fr150, fr151, fr152, undef, undef, undef, undef, undef, undef, undef, undef, undef, undef, undef, undef, undef, undef, undef, undef, undef, undef, undef, undef, undef, undef, undef, undef, undef, undef, undef, undef, undef, undef, undef, undef, undef, undef, undef, undef, undef, undef, undef, undef, undef, undef, undef, undef, undef, undef, undef, undef, undef, undef, undef, undef, undef, undef, undef, undef, undef, undef, undef, undef, undef, undef, undef, undef, undef, undef, undef, undef, undef, undef, undef, undef, undef, undef, undef, undef, undef, undef, undef, undef, undef, undef, undef, undef, undef, undef, undef, undef, undef, undef, undef, undef, undef, undef, undef, undef, undef, undef, undef, undef, undef, undef, undef, undef, undef, undef, undef, undef, undef, undef, undef, undef, undef, undef, undef, undef, undef, undef, undef, undef, undef, undef, undef, undef, undef, undef, undef, undef, undef, undef, undef, undef, undef, undef, undef, undef, undef, undef, undef, undef, undef, undef, undef, undef, undef, undef, undef, undef, undef, undef, undef, undef, fr305, fr306, fr307, fr308, fr309, fr310, fr311, fr312, fr313, fr314, fr315, fr316, fr317, fr318, fr319, fr320, fr321, fr322, fr323, fr324, fr325, fr326, fr327, fr328, fr329, fr330, fr331, fr332, fr333, fr334, fr335, fr336, fr337, fr338, undef, undef, undef, undef, undef, undef, undef, undef, undef, undef, undef, undef, undef, undef, undef, undef, undef, undef, undef, undef, undef, undef, undef, undef, undef, undef, undef, undef, undef, undef, undef, undef, undef, undef, undef, undef, undef, undef, undef, undef, undef, undef, undef, undef, undef, undef, undef, undef, undef, undef, undef, undef, undef, undef, undef, undef, undef, undef, undef, undef, undef, undef, undef, undef, undef, undef, undef, undef, undef, undef, undef, undef, undef, undef, undef, undef, undef, undef, undef, undef, undef, undef, undef, undef, undef, undef, undef, undef, undef, undef, undef, undef, undef, undef, undef, undef, undef, undef, undef, undef, undef, undef, undef, undef, undef, undef, undef, undef, undef, fr448, fr449, fr450, fr451, fr452, fr453, fr454, fr455, fr456, fr457, fr458, fr459, fr460, fr461, fr462, fr463, fr464, fr465, fr466, fr467, fr468, fr469, fr470, fr471, fr472, fr473, fr474, fr475, fr476, fr477, fr478, fr479, fr480, fr481, fr482, fr483, fr484, fr485, fr486, fr487, fr488, fr489, fr490, fr491, fr492, fr493, fr494, fr495, fr496], []⟩ W := by
  conv => arg 2; whnf
  try conv => arg 2; simp only [List.append_eq, List.cons_append, List.nil_append]
  refine wp_seq_k (fun K hK => ?_)
  have HK := hide (show ∀ a w', Code.wp Try.prog (tailN 22 bodyHS) (bodyPost Try.prog Try.f3 (fun e w' => e = .returned (.bool true) ∧ Below w.heap.size w w')) a w' → K a w' from hK)
  clear hK
  have hcap : zs.length ≤ 17592186044416 := by omega
  have HA := hide (fun W' B (h : Ints W' B Az zs.length zs) => AreHeaps_any Az zs.length cz B zs W' h hcap)
  have HAs := hide (fun W' B (h : Ints W' B Az zs.length zs) => specAreHeaps_any Az zs.length cz B zs W' h hcap)
  rw [hg] at HA HAs
  clear hg
  have hgn := neq_same gn
  have hfw := neq_same fw
  have hL := neq_same L
  have hrd := neq_same rd
  have hmo := neq_same mo
  go_wp2_with fail
  refine (kMoves_same _ _ _ _ _ _ _ _ _ hIM.out hIN.out (Nat.le_refl _) (Nat.le_refl _) (by have := hl.out; omega)).mono ?_; rintro e w1 ⟨rfl, hb⟩
  have B1 := hide hb
  replace hIAz := hide ((hIAz.out.below hb (Nat.le_refl _)).more (hb).size)
  replace hIAf := hide ((hIAf.out.below hb (Nat.le_refl _)).more (hb).size)
  replace hIAg := hide ((hIAg.out.below hb (Nat.le_refl _)).more (hb).size)
  replace hIAr := hide ((hIAr.out.below hb (Nat.le_refl _)).more (hb).size)
  replace hIAs := hide ((hIAs.out.below hb (Nat.le_refl _)).more (hb).size)
  replace hIM := hide ((hIM.out.below hb (Nat.le_refl _)).more (hb).size)
  replace hIN := hide ((hIN.out.below hb (Nat.le_refl _)).more (hb).size)
  clear hb
  go_wp2_with fail
  refine (kSame_same _ _ _ _ _ _ _ _ _ hIAf.out hIAg.out (Nat.le_refl _) (Nat.le_refl _) (by have := hl.out; omega)).mono ?_; rintro e w2 ⟨rfl, hb⟩
  have B2 := hide (below_next B1.out hb)
  replace hIAz := hide ((hIAz.out.below hb (Nat.le_refl _)).more (hb).size)
  replace hIAf := hide ((hIAf.out.below hb (Nat.le_refl _)).more (hb).size)
  replace hIAg := hide ((hIAg.out.below hb (Nat.le_refl _)).more (hb).size)
  replace hIAr := hide ((hIAr.out.below hb (Nat.le_refl _)).more (hb).size)
  replace hIAs := hide ((hIAs.out.below hb (Nat.le_refl _)).more (hb).size)
  replace hIM := hide ((hIM.out.below hb (Nat.le_refl _)).more (hb).size)
  replace hIN := hide ((hIN.out.below hb (Nat.le_refl _)).more (hb).size)
  clear B1
  clear hb
  go_wp2_with fail
  refine (kSame_same _ _ _ _ _ _ _ _ _ hIAr.out hIAs.out (Nat.le_refl _) (Nat.le_refl _) (by have := hl.out; omega)).mono ?_; rintro e w3 ⟨rfl, hb⟩
  have B3 := hide (below_next B2.out hb)
  replace hIAz := hide ((hIAz.out.below hb (Nat.le_refl _)).more (hb).size)
  replace hIAf := hide ((hIAf.out.below hb (Nat.le_refl _)).more (hb).size)
  replace hIAg := hide ((hIAg.out.below hb (Nat.le_refl _)).more (hb).size)
  replace hIAr := hide ((hIAr.out.below hb (Nat.le_refl _)).more (hb).size)
  replace hIAs := hide ((hIAs.out.below hb (Nat.le_refl _)).more (hb).size)
  replace hIM := hide ((hIM.out.below hb (Nat.le_refl _)).more (hb).size)
  replace hIN := hide ((hIN.out.below hb (Nat.le_refl _)).more (hb).size)
  clear B2
  clear hb
  go_wp2_with fail
  refine (HA.out _ _ hIAz.out).mono ?_; rintro e _ ⟨rfl, rfl⟩
  go_wp2_with fail
  refine (HA.out _ _ hIAz.out).mono ?_; rintro e _ ⟨rfl, rfl⟩
  go_wp2_with fail
  refine (HAs.out _ _ hIAz.out).mono ?_; rintro e _ ⟨rfl, rfl⟩
  go_wp2_with fail
  refine HK.out _ _ ?_
  conv => arg 2; whnf
  go_wp2_with fail
  go_ret
  exact ⟨rfl, hB.out.trans (B3.out.mono hB.out.size)⟩
end Go.Proofs.Ytediapekgbekeaa

/-
  the first condition.
-/
namespace Go.Proofs.Ytediapekgbekeaa
open Go.RowKit Go.Deep
set_option linter.unusedVariables false

set_option maxRecDepth 100000 in
set_option maxHeartbeats 100000000 in
theorem HzGc (w W : World) (zs : List Int) (ml : List Mo) (fl rf : List Int) (gn fw L rd mo : Int) (hl : Hid (ml.length ≤ 20 ∧ fl.length ≤ 12 ∧ rf.length ≤ 12)) (h20 : zs.length ≤ 20) (hg : good zs = true) (hyes : Hid (ml = moves (over zs) ∧ fl = flows zs ∧ rf = ringFlows zs ∧ gn = gainN zs ∧ fw = fewN zs ∧ L = sizes (flows zs) ∧ rd = sizes (ringFlows zs) ∧ mo = most (flows zs))) (HQ : Hid (eqOk zs = true)) (H8 : Hid ((zs.length : Int) ≤ 8)) (Az : Option Addr) (cz : Nat) (hIAz : Hid (Ints W W.heap.size Az zs.length zs)) (hcz : zs.length ≤ cz) (hczm : cz ≤ maxLen) (Af : Option Addr) (cf : Nat) (hIAf : Hid (Ints W W.heap.size Af fl.length fl)) (hcf : fl.length ≤ cf) (hcfm : cf ≤ maxLen) (Ag : Option Addr) (cg : Nat) (hIAg : Hid (Ints W W.heap.size Ag fl.length fl)) (hcg : fl.length ≤ cg) (hcgm : cg ≤ maxLen) (Ar : Option Addr) (cr : Nat) (hIAr : Hid (Ints W W.heap.size Ar rf.length rf)) (hcr : rf.length ≤ cr) (hcrm : cr ≤ maxLen) (As : Option Addr) (cs : Nat) (hIAs : Hid (Ints W W.heap.size As rf.length rf)) (hcs : rf.length ≤ cs) (hcsm : cs ≤ maxLen) (AM AN : Option Addr) (cM cN : Nat) (hIM : Hid (Mos W W.heap.size AM ml.length ml)) (hIN : Hid (Mos W W.heap.size AN ml.length ml)) (hB : Hid (Below w.heap.size w W)) (fr0 fr1 fr2 fr3 fr4 fr42 fr43 fr44 fr45 fr46 fr47 fr48 fr49 fr50 fr51 fr52 fr53 fr54 fr55 fr56 fr57 fr58 fr59 fr60 fr61 fr62 fr63 fr64 fr65 fr66 fr67 fr68 fr69 fr70 fr71 fr72 fr73 fr74 fr75 fr76 fr77 fr78 fr79 fr80 fr81 fr82 fr83 fr84 fr85 fr86 fr87 fr88 fr89 fr90 fr91 fr92 fr93 fr94 fr95 fr96 fr97 fr98 fr99 fr100 fr101 fr102 fr103 fr104 fr105 fr106 fr107 fr108 fr109 fr110 fr111 fr112 fr113 fr114 fr115 fr116 fr117 fr118 fr119 fr120 fr121 fr122 fr123 fr124 fr125 fr126 fr127 fr128 fr129 fr130 fr131 fr132 fr133 fr134 fr135 fr136 fr137 fr138 fr139 fr140 fr141 fr142 fr143 fr144 fr145 fr146 fr147 fr148 fr149 fr150 fr151 fr152 fr305 fr306 fr307 fr308 fr309 fr310 fr311 fr312 fr313 fr314 fr315 fr316 fr317 fr318 fr319 fr320 fr321 fr322 fr323 fr324 fr325 fr326 fr327 fr328 fr329 fr330 fr331 fr332 fr333 fr334 fr335 fr336 fr337 fr338 fr448 fr449 fr450 fr451 fr452 fr453 fr454 fr455 fr456 fr457 fr458 fr459 fr460 fr461 fr462 fr463 fr464 fr465 fr466 fr467 fr468 fr469 fr470 fr471 fr472 fr473 fr474 fr475 fr476 fr477 fr478 fr479 fr480 fr481 fr482 fr483 fr484 fr485 fr486 fr487 fr488 fr489 fr490 fr491 fr492 fr493 fr494 fr495 fr496 : Value) :
    Code.wp Try.prog (tailN 21 bodyHS) (bodyPost Try.prog Try.f3 (fun e w' => e = .returned (.bool true) ∧ Below w.heap.size w w')) ⟨#[fr0, fr1, fr2, fr3, fr4, Value.slice Az zs.length cz, Value.slice AM ml.length cM, Value.bool true, Value.slice AN ml.length cN, Value.bool true, Value.int .i64 gn, Value.bool true, Value.int .i64 gn, Value.bool true, Value.int .i64 fw, Value.bool true, Value.int .i64 fw, Value.bool true, Value.int .i64 L, Value.bool true, Value.int .i64 L, Value.bool true, Value.slice Af fl.length cf, Value.bool true, Value.slice Ag fl.length cg, Value.bool true, Value.int .i64 rd, Value.bool true, Value.int .i64 rd, Value.bool true, Value.slice Ar rf.length cr, Value.bool true, Value.slice As rf.length cs, Value.bool true, Value.int .i64 mo, Value.bool true, Value.int .i64 mo, Value.bool true, Value.bool true, Value.bool true, Value.bool true, Value.bool true, fr42, fr43, fr44, fr45, fr46, fr47, fr48, fr49, fr50, fr51, fr52, fr53, fr54, fr55, fr56, fr57, fr58, fr59, fr60, fr61, fr62, fr63, fr64, fr65, fr66, fr67, fr68, fr69, fr70, fr71, fr72, fr73, fr74, fr75, fr76, fr77, fr78, fr79, fr80, fr81, fr82, fr83, fr84, fr85, fr86, fr87, fr88, fr89, fr90, fr91, fr92, fr93, fr94, fr95, fr96, fr97, fr98, fr99, fr100, fr101, fr102, fr103, fr104, fr105, fr106, fr107, fr108, fr109, fr110, fr111, fr112, fr113, fr114, fr115, fr116, fr117, fr118, fr119, fr120, fr121, fr122, fr123, fr124, fr125, fr126, fr127, fr128, fr129, fr130, fr131, fr132, fr133, fr134, fr135, fr136, fr137, fr138, fr139, fr140, fr141, fr142, fr143, fr144, fr145, fr146, fr147, fr148, fr149, fr150, fr151, fr152, undef, undef, undef, undef, undef, undef, undef, undef, undef, undef, undef, undef, undef, undef, undef, undef, undef, undef, undef, undef, undef, undef, undef, undef, undef, undef, undef, undef, undef, undef, undef, undef, undef, undef, undef, undef, undef, undef, undef, undef, undef, undef, undef, undef, undef, undef, undef, undef, undef, undef, undef, undef, undef, undef, undef, undef, undef, undef, undef, undef, undef, undef, undef, undef, undef, undef, undef, undef, undef, undef, undef, undef, undef, undef, undef, undef, undef, undef, undef, undef, undef, undef, undef, undef, undef, undef, undef, undef, undef, undef, undef, undef, undef, undef, undef, undef, undef, undef, undef, undef, undef, undef, undef, undef, undef, undef, undef, undef, undef, undef, undef, undef, undef, undef, undef, undef, undef, undef, undef, undef, undef, undef, undef, undef, undef, undef, undef, undef, undef, undef, undef, undef, undef, undef, undef, undef, undef, undef, undef, undef, undef, undef, undef, undef, undef, undef, undef, undef, undef, undef, undef, undef, fr305, fr306, fr307, fr308, fr309, fr310, fr311, fr312, fr313, fr314, fr315, fr316, fr317, fr318, fr319, fr320, fr321, fr322, fr323, fr324, fr325, fr326, fr327, fr328, fr329, fr330, fr331, fr332, fr333, fr334, fr335, fr336, fr337, fr338, undef, undef, undef, undef, undef, undef, undef, undef, undef, undef, undef, undef, undef, undef, undef, undef, undef, undef, undef, undef, undef, undef, undef, undef, undef, undef, undef, undef, undef, undef, undef, undef, undef, undef, undef, undef, undef, undef, undef, undef, undef, undef, undef, undef, undef, undef, undef, undef, undef, undef, undef, undef, undef, undef, undef, undef, undef, undef, undef, undef, undef, undef, undef, undef, undef, undef, undef, undef, undef, undef, undef, undef, undef, undef, undef, undef, undef, undef, undef, undef, undef, undef, undef, undef, undef, undef, undef, undef, undef, undef, undef, undef, undef, undef, undef, undef, undef, undef, undef, undef, undef, undef, undef, undef, undef, undef, undef, undef, undef, fr448, fr449, fr450, fr451, fr452, fr453, fr454, fr455, fr456, fr457, fr458, fr459, fr460, fr461, fr462, fr463, fr464, fr465, fr466, fr467, fr468, fr469, fr470, fr471, fr472, fr473, fr474, fr475, fr476, fr477, fr478, fr479, fr480, fr481, fr482, fr483, fr484, fr485, fr486, fr487, fr488, fr489, fr490, fr491, fr492, fr493, fr494, fr495, fr496], []⟩ W := by
  conv => arg 2; whnf
  try conv => arg 2; simp only [List.append_eq, List.cons_append, List.nil_append]
  refine wp_seq_k (fun K hK => ?_)
  have HK := hide (show ∀ a w', Code.wp Try.prog (tailN 22 bodyHS) (bodyPost Try.prog Try.f3 (fun e w' => e = .returned (.bool true) ∧ Below w.heap.size w w')) a w' → K a w' from hK)
  clear hK
  have hcap : zs.length ≤ 17592186044416 := by omega
  have HA := hide (fun W' B (h : Ints W' B Az zs.length zs) => AreHeaps_any Az zs.length cz B zs W' h hcap)
  have HAs := hide (fun W' B (h : Ints W' B Az zs.length zs) => specAreHeaps_any Az zs.length cz B zs W' h hcap)
  rw [hg] at HA HAs
  clear hg
  have hgn := neq_same gn
  have hfw := neq_same fw
  have hL := neq_same L
  have hrd := neq_same rd
  have hmo := neq_same mo
  go_wp2_with fail
  refine (kMoves_same _ _ _ _ _ _ _ _ _ hIM.out hIN.out (Nat.le_refl _) (Nat.le_refl _) (by have := hl.out; omega)).mono ?_; rintro e w1 ⟨rfl, hb⟩
  have B1 := hide hb
  replace hIAz := hide ((hIAz.out.below hb (Nat.le_refl _)).more (hb).size)
  replace hIAf := hide ((hIAf.out.below hb (Nat.le_refl _)).more (hb).size)
  replace hIAg := hide ((hIAg.out.below hb (Nat.le_refl _)).more (hb).size)
  replace hIAr := hide ((hIAr.out.below hb (Nat.le_refl _)).more (hb).size)
  replace hIAs := hide ((hIAs.out.below hb (Nat.le_refl _)).more (hb).size)
  replace hIM := hide ((hIM.out.below hb (Nat.le_refl _)).more (hb).size)
  replace hIN := hide ((hIN.out.below hb (Nat.le_refl _)).more (hb).size)
  clear hb
  go_wp2_with fail
  refine (kSame_same _ _ _ _ _ _ _ _ _ hIAf.out hIAg.out (Nat.le_refl _) (Nat.le_refl _) (by have := hl.out; omega)).mono ?_; rintro e w2 ⟨rfl, hb⟩
  have B2 := hide (below_next B1.out hb)
  replace hIAz := hide ((hIAz.out.below hb (Nat.le_refl _)).more (hb).size)
  replace hIAf := hide ((hIAf.out.below hb (Nat.le_refl _)).more (hb).size)
  replace hIAg := hide ((hIAg.out.below hb (Nat.le_refl _)).more (hb).size)
  replace hIAr := hide ((hIAr.out.below hb (Nat.le_refl _)).more (hb).size)
  replace hIAs := hide ((hIAs.out.below hb (Nat.le_refl _)).more (hb).size)
  replace hIM := hide ((hIM.out.below hb (Nat.le_refl _)).more (hb).size)
  replace hIN := hide ((hIN.out.below hb (Nat.le_refl _)).more (hb).size)
  clear B1
  clear hb
  go_wp2_with fail
  refine (kSame_same _ _ _ _ _ _ _ _ _ hIAr.out hIAs.out (Nat.le_refl _) (Nat.le_refl _) (by have := hl.out; omega)).mono ?_; rintro e w3 ⟨rfl, hb⟩
  have B3 := hide (below_next B2.out hb)
  replace hIAz := hide ((hIAz.out.below hb (Nat.le_refl _)).more (hb).size)
  replace hIAf := hide ((hIAf.out.below hb (Nat.le_refl _)).more (hb).size)
  replace hIAg := hide ((hIAg.out.below hb (Nat.le_refl _)).more (hb).size)
  replace hIAr := hide ((hIAr.out.below hb (Nat.le_refl _)).more (hb).size)
  replace hIAs := hide ((hIAs.out.below hb (Nat.le_refl _)).more (hb).size)
  replace hIM := hide ((hIM.out.below hb (Nat.le_refl _)).more (hb).size)
  replace hIN := hide ((hIN.out.below hb (Nat.le_refl _)).more (hb).size)
  clear B2
  clear hb
  go_wp2_with fail
  refine (HA.out _ _ hIAz.out).mono ?_; rintro e _ ⟨rfl, rfl⟩
  go_wp2_with fail
  refine (HA.out _ _ hIAz.out).mono ?_; rintro e _ ⟨rfl, rfl⟩
  go_wp2_with fail
  refine (HAs.out _ _ hIAz.out).mono ?_; rintro e _ ⟨rfl, rfl⟩
  go_wp2_with fail
  refine HK.out _ _ ?_
  obtain ⟨rfl, rfl, rfl, rfl, rfl, rfl, rfl, rfl⟩ := hyes.out
  exact HzB w _ zs HQ.out _ (decide_eq_true H8.out).symm Az cz hIAz hcz hczm Af cf hIAf hcf hcfm Ar cr hIAr hcr hcrm AM cM hIM (hide (hB.out.trans (B3.out.mono hB.out.size))) _ _ _ _ _ _ _ _ _ _ _ _ _ _ _ _ _ _ _ _ _ _ _ _ _ _ _ _ _ _ _ _ _ _ _ _ _ _ _ _ _ _ _ _ _ _ _ _ _ _ _ _ _ _ _ _ _ _ _ _ _ _ _ _ _ _ _ _ _ _ _ _ _ _ _ _ _ _ _ _ _ _ _ _ _ _ _ _ _ _ _ _ _ _ _ _ _ _ _ _ _ _ _ _ _ _ _ _ _ _ _ _ _ _ _ _ _ _ _ _ _ _ _ _ _ _ _ _ _ _ _ _ _ _ _ _ _ _ _ _ _ _ _ _ _ _ _ _ _ _ _ _ _ _ _ _ _ _ _ _ _ _ _ _ _ _ _ _ _ _ _ _ _ _ _ _ _ _ _ _ _ _ _ _ _ _ _ _ _ _ _ _ _ _ _ _ _ _ _ _ _ _ _ _ _ _ _ _ _ _ _ _ _ _ _ _ _ _ _ _ _ _ _ _ _ _ _ _ _ _ _ _ _ _ _ _ _ _ _ _ _ _ _ _ _ _ _ _ _ _ _ _ _ _ _ _ _ _ _ _ _ _ _ _ _ _ _ _ _ _ _ _ _ _ _ _ _ _ _ _ _ _ _ _ _ _ _ _ _ _ _ _ _ _ _ _ _ _ _ _ _ _ _ _ _ _ _ _ _ _ _ _ _ _ _ _ _ _ _ _ _ _ _ _ _ _ _ _ _ _ _ _ _ _ _ _ _ _ _ _ _ _ _ _ _ _ _ _ _ _ _ _ _ _ _ _ _ _ _ _ _ _ _ _ _ _ _ _ _ _ _ _ _ _ _ _ _ 
end Go.Proofs.Ytediapekgbekeaa

/-
  the first condition.
-/
namespace Go.Proofs.Ytediapekgbekeaa
open Go.RowKit Go.Deep
set_option linter.unusedVariables false

set_option maxRecDepth 100000 in
set_option maxHeartbeats 100000000 in
theorem HzGd (w W : World) (zs : List Int) (ml : List Mo) (fl rf : List Int) (gn fw L rd mo : Int) (hl : Hid (ml.length ≤ 20 ∧ fl.length ≤ 12 ∧ rf.length ≤ 12)) (h20 : zs.length ≤ 20) (hg : good zs = true) (hyes : Hid (ml = moves (over zs) ∧ fl = flows zs ∧ rf = ringFlows zs ∧ gn = gainN zs ∧ fw = fewN zs ∧ L = sizes (flows zs) ∧ rd = sizes (ringFlows zs) ∧ mo = most (flows zs))) (HQ : Hid (eqOk zs = true)) (H8 : Hid (¬ (zs.length : Int) ≤ 8)) (Az : Option Addr) (cz : Nat) (hIAz : Hid (Ints W W.heap.size Az zs.length zs)) (hcz : zs.length ≤ cz) (hczm : cz ≤ maxLen) (Af : Option Addr) (cf : Nat) (hIAf : Hid (Ints W W.heap.size Af fl.length fl)) (hcf : fl.length ≤ cf) (hcfm : cf ≤ maxLen) (Ag : Option Addr) (cg : Nat) (hIAg : Hid (Ints W W.heap.size Ag fl.length fl)) (hcg : fl.length ≤ cg) (hcgm : cg ≤ maxLen) (Ar : Option Addr) (cr : Nat) (hIAr : Hid (Ints W W.heap.size Ar rf.length rf)) (hcr : rf.length ≤ cr) (hcrm : cr ≤ maxLen) (As : Option Addr) (cs : Nat) (hIAs : Hid (Ints W W.heap.size As rf.length rf)) (hcs : rf.length ≤ cs) (hcsm : cs ≤ maxLen) (AM AN : Option Addr) (cM cN : Nat) (hIM : Hid (Mos W W.heap.size AM ml.length ml)) (hIN : Hid (Mos W W.heap.size AN ml.length ml)) (hB : Hid (Below w.heap.size w W)) (fr0 fr1 fr2 fr3 fr4 fr42 fr43 fr44 fr45 fr46 fr47 fr48 fr49 fr50 fr51 fr52 fr53 fr54 fr55 fr56 fr57 fr58 fr59 fr60 fr61 fr62 fr63 fr64 fr65 fr66 fr67 fr68 fr69 fr70 fr71 fr72 fr73 fr74 fr75 fr76 fr77 fr78 fr79 fr80 fr81 fr82 fr83 fr84 fr85 fr86 fr87 fr88 fr89 fr90 fr91 fr92 fr93 fr94 fr95 fr96 fr97 fr98 fr99 fr100 fr101 fr102 fr103 fr104 fr105 fr106 fr107 fr108 fr109 fr110 fr111 fr112 fr113 fr114 fr115 fr116 fr117 fr118 fr119 fr120 fr121 fr122 fr123 fr124 fr125 fr126 fr127 fr128 fr129 fr130 fr131 fr132 fr133 fr134 fr135 fr136 fr137 fr138 fr139 fr140 fr141 fr142 fr143 fr144 fr145 fr146 fr147 fr148 fr149 fr150 fr151 fr152 fr305 fr306 fr307 fr308 fr309 fr310 fr311 fr312 fr313 fr314 fr315 fr316 fr317 fr318 fr319 fr320 fr321 fr322 fr323 fr324 fr325 fr326 fr327 fr328 fr329 fr330 fr331 fr332 fr333 fr334 fr335 fr336 fr337 fr338 fr448 fr449 fr450 fr451 fr452 fr453 fr454 fr455 fr456 fr457 fr458 fr459 fr460 fr461 fr462 fr463 fr464 fr465 fr466 fr467 fr468 fr469 fr470 fr471 fr472 fr473 fr474 fr475 fr476 fr477 fr478 fr479 fr480 fr481 fr482 fr483 fr484 fr485 fr486 fr487 fr488 fr489 fr490 fr491 fr492 fr493 fr494 fr495 fr496 : Value) :
    Code.wp Try.prog (tailN 21 bodyHS) (bodyPost Try.prog Try.f3 (fun e w' => e = .returned (.bool true) ∧ Below w.heap.size w w')) ⟨#[fr0, fr1, fr2, fr3, fr4, Value.slice Az zs.length cz, Value.slice AM ml.length cM, Value.bool true, Value.slice AN ml.length cN, Value.bool true, Value.int .i64 gn, Value.bool true, Value.int .i64 gn, Value.bool true, Value.int .i64 fw, Value.bool false, Value.int .i64 fw, Value.bool false, Value.int .i64 L, Value.bool true, Value.int .i64 L, Value.bool true, Value.slice Af fl.length cf, Value.bool true, Value.slice Ag fl.length cg, Value.bool true, Value.int .i64 rd, Value.bool true, Value.int .i64 rd, Value.bool true, Value.slice Ar rf.length cr, Value.bool true, Value.slice As rf.length cs, Value.bool true, Value.int .i64 mo, Value.bool true, Value.int .i64 mo, Value.bool true, Value.bool true, Value.bool true, Value.bool true, Value.bool true, fr42, fr43, fr44, fr45, fr46, fr47, fr48, fr49, fr50, fr51, fr52, fr53, fr54, fr55, fr56, fr57, fr58, fr59, fr60, fr61, fr62, fr63, fr64, fr65, fr66, fr67, fr68, fr69, fr70, fr71, fr72, fr73, fr74, fr75, fr76, fr77, fr78, fr79, fr80, fr81, fr82, fr83, fr84, fr85, fr86, fr87, fr88, fr89, fr90, fr91, fr92, fr93, fr94, fr95, fr96, fr97, fr98, fr99, fr100, fr101, fr102, fr103, fr104, fr105, fr106, fr107, fr108, fr109, fr110, fr111, fr112, fr113, fr114, fr115, fr116, fr117, fr118, fr119, fr120, fr121, fr122, fr123, fr124, fr125, fr126, fr127, fr128, fr129, fr130, fr131, fr132, fr133, fr134, fr135, fr136, fr137, fr138, fr139, fr140, fr141, fr142, fr143, fr144, fr145, fr146, fr147, fr148, fr149, fr150, fr151, fr152, undef, undef, undef, undef, undef, undef, undef, undef, undef, undef, undef, undef, undef, undef, undef, undef, undef, undef, undef, undef, undef, undef, undef, undef, undef, undef, undef, undef, undef, undef, undef, undef, undef, undef, undef, undef, undef, undef, undef, undef, undef, undef, undef, undef, undef, undef, undef, undef, undef, undef, undef, undef, undef, undef, undef, undef, undef, undef, undef, undef, undef, undef, undef, undef, undef, undef, undef, undef, undef, undef, undef, undef, undef, undef, undef, undef, undef, undef, undef, undef, undef, undef, undef, undef, undef, undef, undef, undef, undef, undef, undef, undef, undef, undef, undef, undef, undef, undef, undef, undef, undef, undef, undef, undef, undef, undef, undef, undef, undef, undef, undef, undef, undef, undef, undef, undef, undef, undef, undef, undef, undef, undef, undef, undef, undef, undef, undef, undef, undef, undef, undef, undef, undef, undef, undef, undef, undef, undef, undef, undef, undef, undef, undef, undef, undef, undef, undef, undef, undef, undef, undef, undef, fr305, fr306, fr307, fr308, fr309, fr310, fr311, fr312, fr313, fr314, fr315, fr316, fr317, fr318, fr319, fr320, fr321, fr322, fr323, fr324, fr325, fr326, fr327, fr328, fr329, fr330, fr331, fr332, fr333, fr334, fr335, fr336, fr337, fr338, undef, undef, undef, undef, undef, undef, undef, undef, undef, undef, undef, undef, undef, undef, undef, undef, undef, undef, undef, undef, undef, undef, undef, undef, undef, undef, undef, undef, undef, undef, undef, undef, undef, undef, undef, undef, undef, undef, undef, undef, undef, undef, undef, undef, undef, undef, undef, undef, undef, undef, undef, undef, undef, undef, undef, undef, undef, undef, undef, undef, undef, undef, undef, undef, undef, undef, undef, undef, undef, undef, undef, undef, undef, undef, undef, undef, undef, undef, undef, undef, undef, undef, undef, undef, undef, undef, undef, undef, undef, undef, undef, undef, undef, undef, undef, undef, undef, undef, undef, undef, undef, undef, undef, undef, undef, undef, undef, undef, undef, fr448, fr449, fr450, fr451, fr452, fr453, fr454, fr455, fr456, fr457, fr458, fr459, fr460, fr461, fr462, fr463, fr464, fr465, fr466, fr467, fr468, fr469, fr470, fr471, fr472, fr473, fr474, fr475, fr476, fr477, fr478, fr479, fr480, fr481, fr482, fr483, fr484, fr485, fr486, fr487, fr488, fr489, fr490, fr491, fr492, fr493, fr494, fr495, fr496], []⟩ W := by
  conv => arg 2; whnf
  try conv => arg 2; simp only [List.append_eq, List.cons_append, List.nil_append]
  refine wp_seq_k (fun K hK => ?_)
  have HK := hide (show ∀ a w', Code.wp Try.prog (tailN 22 bodyHS) (bodyPost Try.prog Try.f3 (fun e w' => e = .returned (.bool true) ∧ Below w.heap.size w w')) a w' → K a w' from hK)
  clear hK
  have hcap : zs.length ≤ 17592186044416 := by omega
  have HA := hide (fun W' B (h : Ints W' B Az zs.length zs) => AreHeaps_any Az zs.length cz B zs W' h hcap)
  have HAs := hide (fun W' B (h : Ints W' B Az zs.length zs) => specAreHeaps_any Az zs.length cz B zs W' h hcap)
  rw [hg] at HA HAs
  clear hg
  have hgn := neq_same gn
  have hfw := neq_same fw
  have hL := neq_same L
  have hrd := neq_same rd
  have hmo := neq_same mo
  go_wp2_with fail
  refine (kMoves_same _ _ _ _ _ _ _ _ _ hIM.out hIN.out (Nat.le_refl _) (Nat.le_refl _) (by have := hl.out; omega)).mono ?_; rintro e w1 ⟨rfl, hb⟩
  have B1 := hide hb
  replace hIAz := hide ((hIAz.out.below hb (Nat.le_refl _)).more (hb).size)
  replace hIAf := hide ((hIAf.out.below hb (Nat.le_refl _)).more (hb).size)
  replace hIAg := hide ((hIAg.out.below hb (Nat.le_refl _)).more (hb).size)
  replace hIAr := hide ((hIAr.out.below hb (Nat.le_refl _)).more (hb).size)
  replace hIAs := hide ((hIAs.out.below hb (Nat.le_refl _)).more (hb).size)
  replace hIM := hide ((hIM.out.below hb (Nat.le_refl _)).more (hb).size)
  replace hIN := hide ((hIN.out.below hb (Nat.le_refl _)).more (hb).size)
  clear hb
  go_wp2_with fail
  refine (kSame_same _ _ _ _ _ _ _ _ _ hIAf.out hIAg.out (Nat.le_refl _) (Nat.le_refl _) (by have := hl.out; omega)).mono ?_; rintro e w2 ⟨rfl, hb⟩
  have B2 := hide (below_next B1.out hb)
  replace hIAz := hide ((hIAz.out.below hb (Nat.le_refl _)).more (hb).size)
  replace hIAf := hide ((hIAf.out.below hb (Nat.le_refl _)).more (hb).size)
  replace hIAg := hide ((hIAg.out.below hb (Nat.le_refl _)).more (hb).size)
  replace hIAr := hide ((hIAr.out.below hb (Nat.le_refl _)).more (hb).size)
  replace hIAs := hide ((hIAs.out.below hb (Nat.le_refl _)).more (hb).size)
  replace hIM := hide ((hIM.out.below hb (Nat.le_refl _)).more (hb).size)
  replace hIN := hide ((hIN.out.below hb (Nat.le_refl _)).more (hb).size)
  clear B1
  clear hb
  go_wp2_with fail
  refine (kSame_same _ _ _ _ _ _ _ _ _ hIAr.out hIAs.out (Nat.le_refl _) (Nat.le_refl _) (by have := hl.out; omega)).mono ?_; rintro e w3 ⟨rfl, hb⟩
  have B3 := hide (below_next B2.out hb)
  replace hIAz := hide ((hIAz.out.below hb (Nat.le_refl _)).more (hb).size)
  replace hIAf := hide ((hIAf.out.below hb (Nat.le_refl _)).more (hb).size)
  replace hIAg := hide ((hIAg.out.below hb (Nat.le_refl _)).more (hb).size)
  replace hIAr := hide ((hIAr.out.below hb (Nat.le_refl _)).more (hb).size)
  replace hIAs := hide ((hIAs.out.below hb (Nat.le_refl _)).more (hb).size)
  replace hIM := hide ((hIM.out.below hb (Nat.le_refl _)).more (hb).size)
  replace hIN := hide ((hIN.out.below hb (Nat.le_refl _)).more (hb).size)
  clear B2
  clear hb
  go_wp2_with fail
  refine (HA.out _ _ hIAz.out).mono ?_; rintro e _ ⟨rfl, rfl⟩
  go_wp2_with fail
  refine (HA.out _ _ hIAz.out).mono ?_; rintro e _ ⟨rfl, rfl⟩
  go_wp2_with fail
  refine (HAs.out _ _ hIAz.out).mono ?_; rintro e _ ⟨rfl, rfl⟩
  go_wp2_with fail
  refine HK.out _ _ ?_
  obtain ⟨rfl, rfl, rfl, rfl, rfl, rfl, rfl, rfl⟩ := hyes.out
  exact HzB w _ zs HQ.out _ (decide_eq_false (show ¬ (zs.length : Int) ≤ 8 by have := H8.out; omega)).symm Az cz hIAz hcz hczm Af cf hIAf hcf hcfm Ar cr hIAr hcr hcrm AM cM hIM (hide (hB.out.trans (B3.out.mono hB.out.size))) _ _ _ _ _ _ _ _ _ _ _ _ _ _ _ _ _ _ _ _ _ _ _ _ _ _ _ _ _ _ _ _ _ _ _ _ _ _ _ _ _ _ _ _ _ _ _ _ _ _ _ _ _ _ _ _ _ _ _ _ _ _ _ _ _ _ _ _ _ _ _ _ _ _ _ _ _ _ _ _ _ _ _ _ _ _ _ _ _ _ _ _ _ _ _ _ _ _ _ _ _ _ _ _ _ _ _ _ _ _ _ _ _ _ _ _ _ _ _ _ _ _ _ _ _ _ _ _ _ _ _ _ _ _ _ _ _ _ _ _ _ _ _ _ _ _ _ _ _ _ _ _ _ _ _ _ _ _ _ _ _ _ _ _ _ _ _ _ _ _ _ _ _ _ _ _ _ _ _ _ _ _ _ _ _ _ _ _ _ _ _ _ _ _ _ _ _ _ _ _ _ _ _ _ _ _ _ _ _ _ _ _ _ _ _ _ _ _ _ _ _ _ _ _ _ _ _ _ _ _ _ _ _ _ _ _ _ _ _ _ _ _ _ _ _ _ _ _ _ _ _ _ _ _ _ _ _ _ _ _ _ _ _ _ _ _ _ _ _ _ _ _ _ _ _ _ _ _ _ _ _ _ _ _ _ _ _ _ _ _ _ _ _ _ _ _ _ _ _ _ _ _ _ _ _ _ _ _ _ _ _ _ _ _ _ _ _ _ _ _ _ _ _ _ _ _ _ _ _ _ _ _ _ _ _ _ _ _ _ _ _ _ _ _ _ _ _ _ _ _ _ _ _ _ _ _ _ _ _ _ _ _ _ _ _ _ _ _ _ _ _ _ _ _ _ _ _ 
end Go.Proofs.Ytediapekgbekeaa

/-
  FnHeapsShared: the first condition, whichever way.
-/
namespace Go.Proofs.Ytediapekgbekeaa
open Go.RowKit Go.Deep
set_option linter.unusedVariables false

set_option maxRecDepth 100000 in
set_option maxHeartbeats 100000000 in
theorem HzG (w W : World) (zs : List Int) (q g t : Bool) (hq : q = eqOk zs) (hg : g = good zs) (ht : t = fewOk zs) (ml : List Mo) (fl rf : List Int) (gn fw L rd mo : Int) (hyes : Hid (q = true → ml = moves (over zs) ∧ fl = flows zs ∧ rf = ringFlows zs ∧ gn = gainN zs ∧ fw = fewN zs ∧ L = sizes (flows zs) ∧ rd = sizes (ringFlows zs) ∧ mo = most (flows zs))) (hl : Hid (ml.length ≤ 20 ∧ fl.length ≤ 12 ∧ rf.length ≤ 12)) (h20 : zs.length ≤ 20) (Az : Option Addr) (cz : Nat) (hIAz : Hid (Ints W W.heap.size Az zs.length zs)) (hcz : zs.length ≤ cz) (hczm : cz ≤ maxLen) (Af : Option Addr) (cf : Nat) (hIAf : Hid (Ints W W.heap.size Af fl.length fl)) (hcf : fl.length ≤ cf) (hcfm : cf ≤ maxLen) (Ag : Option Addr) (cg : Nat) (hIAg : Hid (Ints W W.heap.size Ag fl.length fl)) (hcg : fl.length ≤ cg) (hcgm : cg ≤ maxLen) (Ar : Option Addr) (cr : Nat) (hIAr : Hid (Ints W W.heap.size Ar rf.length rf)) (hcr : rf.length ≤ cr) (hcrm : cr ≤ maxLen) (As : Option Addr) (cs : Nat) (hIAs : Hid (Ints W W.heap.size As rf.length rf)) (hcs : rf.length ≤ cs) (hcsm : cs ≤ maxLen) (AM AN : Option Addr) (cM cN : Nat) (hIM : Hid (Mos W W.heap.size AM ml.length ml)) (hIN : Hid (Mos W W.heap.size AN ml.length ml)) (hB : Hid (Below w.heap.size w W)) (fr0 fr1 fr2 fr3 fr4 fr42 fr43 fr44 fr45 fr46 fr47 fr48 fr49 fr50 fr51 fr52 fr53 fr54 fr55 fr56 fr57 fr58 fr59 fr60 fr61 fr62 fr63 fr64 fr65 fr66 fr67 fr68 fr69 fr70 fr71 fr72 fr73 fr74 fr75 fr76 fr77 fr78 fr79 fr80 fr81 fr82 fr83 fr84 fr85 fr86 fr87 fr88 fr89 fr90 fr91 fr92 fr93 fr94 fr95 fr96 fr97 fr98 fr99 fr100 fr101 fr102 fr103 fr104 fr105 fr106 fr107 fr108 fr109 fr110 fr111 fr112 fr113 fr114 fr115 fr116 fr117 fr118 fr119 fr120 fr121 fr122 fr123 fr124 fr125 fr126 fr127 fr128 fr129 fr130 fr131 fr132 fr133 fr134 fr135 fr136 fr137 fr138 fr139 fr140 fr141 fr142 fr143 fr144 fr145 fr146 fr147 fr148 fr149 fr150 fr151 fr152 fr305 fr306 fr307 fr308 fr309 fr310 fr311 fr312 fr313 fr314 fr315 fr316 fr317 fr318 fr319 fr320 fr321 fr322 fr323 fr324 fr325 fr326 fr327 fr328 fr329 fr330 fr331 fr332 fr333 fr334 fr335 fr336 fr337 fr338 fr448 fr449 fr450 fr451 fr452 fr453 fr454 fr455 fr456 fr457 fr458 fr459 fr460 fr461 fr462 fr463 fr464 fr465 fr466 fr467 fr468 fr469 fr470 fr471 fr472 fr473 fr474 fr475 fr476 fr477 fr478 fr479 fr480 fr481 fr482 fr483 fr484 fr485 fr486 fr487 fr488 fr489 fr490 fr491 fr492 fr493 fr494 fr495 fr496 : Value) :
    Code.wp Try.prog (tailN 21 bodyHS) (bodyPost Try.prog Try.f3 (fun e w' => e = .returned (.bool true) ∧ Below w.heap.size w w')) ⟨#[fr0, fr1, fr2, fr3, fr4, Value.slice Az zs.length cz, Value.slice AM ml.length cM, Value.bool q, Value.slice AN ml.length cN, Value.bool q, Value.int .i64 gn, Value.bool q, Value.int .i64 gn, Value.bool q, Value.int .i64 fw, Value.bool t, Value.int .i64 fw, Value.bool t, Value.int .i64 L, Value.bool q, Value.int .i64 L, Value.bool q, Value.slice Af fl.length cf, Value.bool q, Value.slice Ag fl.length cg, Value.bool q, Value.int .i64 rd, Value.bool q, Value.int .i64 rd, Value.bool q, Value.slice Ar rf.length cr, Value.bool q, Value.slice As rf.length cs, Value.bool q, Value.int .i64 mo, Value.bool q, Value.int .i64 mo, Value.bool q, Value.bool q, Value.bool g, Value.bool q, Value.bool g, fr42, fr43, fr44, fr45, fr46, fr47, fr48, fr49, fr50, fr51, fr52, fr53, fr54, fr55, fr56, fr57, fr58, fr59, fr60, fr61, fr62, fr63, fr64, fr65, fr66, fr67, fr68, fr69, fr70, fr71, fr72, fr73, fr74, fr75, fr76, fr77, fr78, fr79, fr80, fr81, fr82, fr83, fr84, fr85, fr86, fr87, fr88, fr89, fr90, fr91, fr92, fr93, fr94, fr95, fr96, fr97, fr98, fr99, fr100, fr101, fr102, fr103, fr104, fr105, fr106, fr107, fr108, fr109, fr110, fr111, fr112, fr113, fr114, fr115, fr116, fr117, fr118, fr119, fr120, fr121, fr122, fr123, fr124, fr125, fr126, fr127, fr128, fr129, fr130, fr131, fr132, fr133, fr134, fr135, fr136, fr137, fr138, fr139, fr140, fr141, fr142, fr143, fr144, fr145, fr146, fr147, fr148, fr149, fr150, fr151, fr152, undef, undef, undef, undef, undef, undef, undef, undef, undef, undef, undef, undef, undef, undef, undef, undef, undef, undef, undef, undef, undef, undef, undef, undef, undef, undef, undef, undef, undef, undef, undef, undef, undef, undef, undef, undef, undef, undef, undef, undef, undef, undef, undef, undef, undef, undef, undef, undef, undef, undef, undef, undef, undef, undef, undef, undef, undef, undef, undef, undef, undef, undef, undef, undef, undef, undef, undef, undef, undef, undef, undef, undef, undef, undef, undef, undef, undef, undef, undef, undef, undef, undef, undef, undef, undef, undef, undef, undef, undef, undef, undef, undef, undef, undef, undef, undef, undef, undef, undef, undef, undef, undef, undef, undef, undef, undef, undef, undef, undef, undef, undef, undef, undef, undef, undef, undef, undef, undef, undef, undef, undef, undef, undef, undef, undef, undef, undef, undef, undef, undef, undef, undef, undef, undef, undef, undef, undef, undef, undef, undef, undef, undef, undef, undef, undef, undef, undef, undef, undef, undef, undef, undef, fr305, fr306, fr307, fr308, fr309, fr310, fr311, fr312, fr313, fr314, fr315, fr316, fr317, fr318, fr319, fr320, fr321, fr322, fr323, fr324, fr325, fr326, fr327, fr328, fr329, fr330, fr331, fr332, fr333, fr334, fr335, fr336, fr337, fr338, undef, undef, undef, undef, undef, undef, undef, undef, undef, undef, undef, undef, undef, undef, undef, undef, undef, undef, undef, undef, undef, undef, undef, undef, undef, undef, undef, undef, undef, undef, undef, undef, undef, undef, undef, undef, undef, undef, undef, undef, undef, undef, undef, undef, undef, undef, undef, undef, undef, undef, undef, undef, undef, undef, undef, undef, undef, undef, undef, undef, undef, undef, undef, undef, undef, undef, undef, undef, undef, undef, undef, undef, undef, undef, undef, undef, undef, undef, undef, undef, undef, undef, undef, undef, undef, undef, undef, undef, undef, undef, undef, undef, undef, undef, undef, undef, undef, undef, undef, undef, undef, undef, undef, undef, undef, undef, undef, undef, undef, fr448, fr449, fr450, fr451, fr452, fr453, fr454, fr455, fr456, fr457, fr458, fr459, fr460, fr461, fr462, fr463, fr464, fr465, fr466, fr467, fr468, fr469, fr470, fr471, fr472, fr473, fr474, fr475, fr476, fr477, fr478, fr479, fr480, fr481, fr482, fr483, fr484, fr485, fr486, fr487, fr488, fr489, fr490, fr491, fr492, fr493, fr494, fr495, fr496], []⟩ W := by
  cases q
  · obtain rfl : t = false := by rw [ht]; exact fewOk_no hq.symm
    cases g
    · exact HzGa w W zs ml fl rf gn fw L rd mo hl h20 hg.symm Az cz hIAz hcz hczm Af cf hIAf hcf hcfm Ag cg hIAg hcg hcgm Ar cr hIAr hcr hcrm As cs hIAs hcs hcsm AM AN cM cN hIM hIN hB _ _ _ _ _ _ _ _ _ _ _ _ _ _ _ _ _ _ _ _ _ _ _ _ _ _ _ _ _ _ _ _ _ _ _ _ _ _ _ _ _ _ _ _ _ _ _ _ _ _ _ _ _ _ _ _ _ _ _ _ _ _ _ _ _ _ _ _ _ _ _ _ _ _ _ _ _ _ _ _ _ _ _ _ _ _ _ _ _ _ _ _ _ _ _ _ _ _ _ _ _ _ _ _ _ _ _ _ _ _ _ _ _ _ _ _ _ _ _ _ _ _ _ _ _ _ _ _ _ _ _ _ _ _ _ _ _ _ _ _ _ _ _ _ _ _ _ _ _ _ _ _ _ _ _ _ _ _ _ _ _ _ _ _ _ _ _ _ _ _ _ _ _ _ _ _ _ _ _ _ _ _ _ _ _ _ _ _ _ _ _ _ _ _ _ _ _ _ _ 
    · exact HzGb w W zs ml fl rf gn fw L rd mo hl h20 hg.symm Az cz hIAz hcz hczm Af cf hIAf hcf hcfm Ag cg hIAg hcg hcgm Ar cr hIAr hcr hcrm As cs hIAs hcs hcsm AM AN cM cN hIM hIN hB _ _ _ _ _ _ _ _ _ _ _ _ _ _ _ _ _ _ _ _ _ _ _ _ _ _ _ _ _ _ _ _ _ _ _ _ _ _ _ _ _ _ _ _ _ _ _ _ _ _ _ _ _ _ _ _ _ _ _ _ _ _ _ _ _ _ _ _ _ _ _ _ _ _ _ _ _ _ _ _ _ _ _ _ _ _ _ _ _ _ _ _ _ _ _ _ _ _ _ _ _ _ _ _ _ _ _ _ _ _ _ _ _ _ _ _ _ _ _ _ _ _ _ _ _ _ _ _ _ _ _ _ _ _ _ _ _ _ _ _ _ _ _ _ _ _ _ _ _ _ _ _ _ _ _ _ _ _ _ _ _ _ _ _ _ _ _ _ _ _ _ _ _ _ _ _ _ _ _ _ _ _ _ _ _ _ _ _ _ _ _ _ _ _ _ _ _ _ _ 
  · obtain rfl : g = true := by rw [hg]; exact eqOk_good hq.symm
    by_cases h8 : (zs.length : Int) ≤ 8
    · obtain rfl : t = true := by rw [ht, fewOk_at hq.symm]; exact decide_eq_true (by omega)
      exact HzGc w W zs ml fl rf gn fw L rd mo hl h20 hg.symm (hide (hyes.out rfl)) (hide hq.symm) (hide h8) Az cz hIAz hcz hczm Af cf hIAf hcf hcfm Ag cg hIAg hcg hcgm Ar cr hIAr hcr hcrm As cs hIAs hcs hcsm AM AN cM cN hIM hIN hB _ _ _ _ _ _ _ _ _ _ _ _ _ _ _ _ _ _ _ _ _ _ _ _ _ _ _ _ _ _ _ _ _ _ _ _ _ _ _ _ _ _ _ _ _ _ _ _ _ _ _ _ _ _ _ _ _ _ _ _ _ _ _ _ _ _ _ _ _ _ _ _ _ _ _ _ _ _ _ _ _ _ _ _ _ _ _ _ _ _ _ _ _ _ _ _ _ _ _ _ _ _ _ _ _ _ _ _ _ _ _ _ _ _ _ _ _ _ _ _ _ _ _ _ _ _ _ _ _ _ _ _ _ _ _ _ _ _ _ _ _ _ _ _ _ _ _ _ _ _ _ _ _ _ _ _ _ _ _ _ _ _ _ _ _ _ _ _ _ _ _ _ _ _ _ _ _ _ _ _ _ _ _ _ _ _ _ _ _ _ _ _ _ _ _ _ _ _ _ 
    · obtain rfl : t = false := by rw [ht, fewOk_at hq.symm]; exact decide_eq_false (by omega)
      exact HzGd w W zs ml fl rf gn fw L rd mo hl h20 hg.symm (hide (hyes.out rfl)) (hide hq.symm) (hide h8) Az cz hIAz hcz hczm Af cf hIAf hcf hcfm Ag cg hIAg hcg hcgm Ar cr hIAr hcr hcrm As cs hIAs hcs hcsm AM AN cM cN hIM hIN hB _ _ _ _ _ _ _ _ _ _ _ _ _ _ _ _ _ _ _ _ _ _ _ _ _ _ _ _ _ _ _ _ _ _ _ _ _ _ _ _ _ _ _ _ _ _ _ _ _ _ _ _ _ _ _ _ _ _ _ _ _ _ _ _ _ _ _ _ _ _ _ _ _ _ _ _ _ _ _ _ _ _ _ _ _ _ _ _ _ _ _ _ _ _ _ _ _ _ _ _ _ _ _ _ _ _ _ _ _ _ _ _ _ _ _ _ _ _ _ _ _ _ _ _ _ _ _ _ _ _ _ _ _ _ _ _ _ _ _ _ _ _ _ _ _ _ _ _ _ _ _ _ _ _ _ _ _ _ _ _ _ _ _ _ _ _ _ _ _ _ _ _ _ _ _ _ _ _ _ _ _ _ _ _ _ _ _ _ _ _ _ _ _ _ _ _ _ _ _ 
end Go.Proofs.Ytediapekgbekeaa

/-
  FnHeapsShared: its draw.
-/
namespace Go.Proofs.Ytediapekgbekeaa
open Go.RowKit Go.Deep
set_option linter.unusedVariables false

theorem DrawSharingMoves_any (A : Option Addr) (n c : Nat) (w : World) (h : Bys w w.heap.size A n) (hn : n ≤ 1048576) :
    Calls Try.prog 5 #[.slice A n c] w (DrewL w) := by
  have HD := hide (DrawAreHeaps_any A n c w h hn)
  go_enter Try.func5, Try.ntmps5
  go_wp2_with fail
  refine HD.out.mono ?_; rintro e w1 ⟨v, rfl, hv, hw⟩
  have HV := hide hv
  have HB := hide hw
  clear hv hw
  go_wp2_with fail
  go_ret
  exact ⟨_, rfl, HV.out, HB.out⟩
end Go.Proofs.Ytediapekgbekeaa

/-
  THE WALK OF FnHeapsShared, the given frame left out: for all bytes the law returns true and writes nothing that was there.
-/
namespace Go.Proofs.Ytediapekgbekeaa
open Go.RowKit Go.Deep
set_option linter.unusedVariables false

set_option maxRecDepth 100000 in
set_option maxHeartbeats 100000000 in
theorem lawHeapsShared (A : Option Addr) (n c : Nat) (A' : Option Addr) (n' c' : Nat) (w : World) (hx : Bys w w.heap.size A n) (hx' : Bys w w.heap.size A' n') :
    Calls Try.prog 3 #[.slice A n c, .slice A' n' c'] w fun e w' => e = .returned (.bool true) ∧ Below w.heap.size w w' := by
  by_cases hbig : n + n' ≤ 1048576
  · go_enter Try.func3, Try.ntmps3
    refine wp_seq_k (fun K hK => ?_)
    have HK := hide hK
    clear hK
    go_wp2_with fail
    refine HK.out _ _ ?_
    clear HK
    refine wp_seq_k (fun K hK => ?_)
    have HK := hide hK
    clear hK
    go_wp2_with fail
    refine (big_no A A' n c n' c' _ hbig).mono ?_; rintro e _ ⟨rfl, rfl⟩
    go_wp2_with fail
    refine HK.out _ _ ?_
    clear HK
    refine wp_seq_k (fun K hK => ?_)
    have HK := hide hK
    clear hK
    go_wp2_with fail
    refine (DrawSharingMoves_any A n c w hx (by omega)).mono ?_; rintro e w1 ⟨v, rfl, ⟨zs, Az, cz, rfl, hNAz, hO⟩, hb⟩
    obtain ⟨A_, c_, hv_, hcz, hczm⟩ := hO.shape; injection hv_ with hv1 hv2 hv3; subst hv1; subst hv3; clear hv2
    have h20Az := hNAz.1
    have B1 := hide hb
    have hIAz := hide hO.ints
    clear hO hb
    go_wp2_with fail
    refine HK.out _ _ ?_
    clear HK
    clear hNAz
    have hcap : zs.length ≤ 17592186044416 := by omega
    refine wp_seq_k (fun K hK => ?_)
    have HK := hide hK
    clear hK
    go_wp2_with fail
    refine (implSharingMoves_of Az zs.length cz _ zs _ hIAz.out (Nat.le_refl _) hcap).mono ?_; rintro e w2 ⟨AM, cM, rfl, hO, hb⟩
    have B2 := hide (below_next B1.out hb)
    replace hIAz := hide ((hIAz.out.below hb (Nat.le_refl _)).more (hb).size)
    clear B1
    have hIM := hide hO.list
    clear hO hb
    go_wp2_with fail
    refine HK.out _ _ ?_
    clear HK
    refine wp_seq_k (fun K hK => ?_)
    have HK := hide hK
    clear hK
    go_wp2_with fail
    refine (specSharingMoves_of Az zs.length cz _ zs _ hIAz.out (Nat.le_refl _) hcap).mono ?_; rintro e w3 ⟨AN_, cN, rfl, hO, hb⟩
    have B3 := hide (below_next B2.out hb)
    replace hIAz := hide ((hIAz.out.below hb (Nat.le_refl _)).more (hb).size)
    replace hIM := hide ((hIM.out.below hb (Nat.le_refl _)).more (hb).size)
    clear B2
    have hIN_ := hide hO.list
    clear hO hb
    go_wp2_with fail
    refine HK.out _ _ ?_
    clear HK
    refine wp_seq_k (fun K hK => ?_)
    have HK := hide hK
    clear hK
    go_wp2_with fail
    refine (StonesToMove_any Az zs.length cz _ zs _ hIAz.out (Nat.le_refl _) hcap).mono ?_; rintro e w4 ⟨rfl, hb⟩
    have B4 := hide (below_next B3.out hb)
    replace hIAz := hide ((hIAz.out.below hb (Nat.le_refl _)).more (hb).size)
    replace hIM := hide ((hIM.out.below hb (Nat.le_refl _)).more (hb).size)
    replace hIN_ := hide ((hIN_.out.below hb (Nat.le_refl _)).more (hb).size)
    clear B3
    clear hb
    go_wp2_with fail
    refine HK.out _ _ ?_
    clear HK
    refine wp_seq_k (fun K hK => ?_)
    have HK := hide hK
    clear hK
    go_wp2_with fail
    refine (specStonesToMove_any Az zs.length cz _ zs _ hIAz.out (Nat.le_refl _) hcap).mono ?_; rintro e w5 ⟨rfl, hb⟩
    have B5 := hide (below_next B4.out hb)
    replace hIAz := hide ((hIAz.out.below hb (Nat.le_refl _)).more (hb).size)
    replace hIM := hide ((hIM.out.below hb (Nat.le_refl _)).more (hb).size)
    replace hIN_ := hide ((hIN_.out.below hb (Nat.le_refl _)).more (hb).size)
    clear B4
    clear hb
    go_wp2_with fail
    refine HK.out _ _ ?_
    clear HK
    refine wp_seq_k (fun K hK => ?_)
    have HK := hide hK
    clear hK
    go_wp2_with fail
    refine (FewestMoves_any Az zs.length cz _ zs _ hIAz.out (Nat.le_refl _) hcap).mono ?_; rintro e w6 ⟨rfl, hb⟩
    have B6 := hide (below_next B5.out hb)
    replace hIAz := hide ((hIAz.out.below hb (Nat.le_refl _)).more (hb).size)
    replace hIM := hide ((hIM.out.below hb (Nat.le_refl _)).more (hb).size)
    replace hIN_ := hide ((hIN_.out.below hb (Nat.le_refl _)).more (hb).size)
    clear B5
    clear hb
    go_wp2_with fail
    refine HK.out _ _ ?_
    clear HK
    refine wp_seq_k (fun K hK => ?_)
    have HK := hide hK
    clear hK
    go_wp2_with fail
    refine (specFewestMoves_any Az zs.length cz _ zs _ hIAz.out (Nat.le_refl _) hcap).mono ?_; rintro e w7 ⟨rfl, hb⟩
    have B7 := hide (below_next B6.out hb)
    replace hIAz := hide ((hIAz.out.below hb (Nat.le_refl _)).more (hb).size)
    replace hIM := hide ((hIM.out.below hb (Nat.le_refl _)).more (hb).size)
    replace hIN_ := hide ((hIN_.out.below hb (Nat.le_refl _)).more (hb).size)
    clear B6
    clear hb
    go_wp2_with fail
    refine HK.out _ _ ?_
    clear HK
    refine wp_seq_k (fun K hK => ?_)
    have HK := hide hK
    clear hK
    go_wp2_with fail
    refine (LineDistance_any Az zs.length cz _ zs _ hIAz.out (Nat.le_refl _) hcap).mono ?_; rintro e w8 ⟨rfl, hb⟩
    have B8 := hide (below_next B7.out hb)
    replace hIAz := hide ((hIAz.out.below hb (Nat.le_refl _)).more (hb).size)
    replace hIM := hide ((hIM.out.below hb (Nat.le_refl _)).more (hb).size)
    replace hIN_ := hide ((hIN_.out.below hb (Nat.le_refl _)).more (hb).size)
    clear B7
    clear hb
    go_wp2_with fail
    refine HK.out _ _ ?_
    clear HK
    refine wp_seq_k (fun K hK => ?_)
    have HK := hide hK
    clear hK
    go_wp2_with fail
    refine (specLineDistance_any Az zs.length cz _ zs _ hIAz.out (Nat.le_refl _) hcap).mono ?_; rintro e w9 ⟨rfl, hb⟩
    have B9 := hide (below_next B8.out hb)
    replace hIAz := hide ((hIAz.out.below hb (Nat.le_refl _)).more (hb).size)
    replace hIM := hide ((hIM.out.below hb (Nat.le_refl _)).more (hb).size)
    replace hIN_ := hide ((hIN_.out.below hb (Nat.le_refl _)).more (hb).size)
    clear B8
    clear hb
    go_wp2_with fail
    refine HK.out _ _ ?_
    clear HK
    refine wp_seq_k (fun K hK => ?_)
    have HK := hide hK
    clear hK
    go_wp2_with fail
    refine (LineFlows_any Az zs.length cz _ zs _ hIAz.out (Nat.le_refl _) hcap).mono ?_; rintro e w10 ⟨Af, cf, rfl, hcf, hcfm, hO, hb⟩
    have B10 := hide (below_next B9.out hb)
    replace hIAz := hide ((hIAz.out.below hb (Nat.le_refl _)).more (hb).size)
    replace hIM := hide ((hIM.out.below hb (Nat.le_refl _)).more (hb).size)
    replace hIN_ := hide ((hIN_.out.below hb (Nat.le_refl _)).more (hb).size)
    clear B9
    have hIAf := hide hO.ints
    clear hO hb
    go_wp2_with fail
    refine HK.out _ _ ?_
    clear HK
    refine wp_seq_k (fun K hK => ?_)
    have HK := hide hK
    clear hK
    go_wp2_with fail
    refine (specLineFlows_any Az zs.length cz _ zs _ hIAz.out (Nat.le_refl _) hcap).mono ?_; rintro e w11 ⟨Ag, cg, rfl, hcg, hcgm, hO, hb⟩
    have B11 := hide (below_next B10.out hb)
    replace hIAz := hide ((hIAz.out.below hb (Nat.le_refl _)).more (hb).size)
    replace hIM := hide ((hIM.out.below hb (Nat.le_refl _)).more (hb).size)
    replace hIN_ := hide ((hIN_.out.below hb (Nat.le_refl _)).more (hb).size)
    replace hIAf := hide ((hIAf.out.below hb (Nat.le_refl _)).more (hb).size)
    clear B10
    have hIAg := hide hO.ints
    clear hO hb
    go_wp2_with fail
    refine HK.out _ _ ?_
    clear HK
    refine wp_seq_k (fun K hK => ?_)
    have HK := hide hK
    clear hK
    go_wp2_with fail
    refine (RingDistance_any Az zs.length cz _ zs _ hIAz.out (Nat.le_refl _) hcap).mono ?_; rintro e w12 ⟨rfl, hb⟩
    have B12 := hide (below_next B11.out hb)
    replace hIAz := hide ((hIAz.out.below hb (Nat.le_refl _)).more (hb).size)
    replace hIM := hide ((hIM.out.below hb (Nat.le_refl _)).more (hb).size)
    replace hIN_ := hide ((hIN_.out.below hb (Nat.le_refl _)).more (hb).size)
    replace hIAf := hide ((hIAf.out.below hb (Nat.le_refl _)).more (hb).size)
    replace hIAg := hide ((hIAg.out.below hb (Nat.le_refl _)).more (hb).size)
    clear B11
    clear hb
    go_wp2_with fail
    refine HK.out _ _ ?_
    clear HK
    refine wp_seq_k (fun K hK => ?_)
    have HK := hide hK
    clear hK
    go_wp2_with fail
    refine (specRingDistance_any Az zs.length cz _ zs _ hIAz.out (Nat.le_refl _) hcap).mono ?_; rintro e w13 ⟨rfl, hb⟩
    have B13 := hide (below_next B12.out hb)
    replace hIAz := hide ((hIAz.out.below hb (Nat.le_refl _)).more (hb).size)
    replace hIM := hide ((hIM.out.below hb (Nat.le_refl _)).more (hb).size)
    replace hIN_ := hide ((hIN_.out.below hb (Nat.le_refl _)).more (hb).size)
    replace hIAf := hide ((hIAf.out.below hb (Nat.le_refl _)).more (hb).size)
    replace hIAg := hide ((hIAg.out.below hb (Nat.le_refl _)).more (hb).size)
    clear B12
    clear hb
    go_wp2_with fail
    refine HK.out _ _ ?_
    clear HK
    refine wp_seq_k (fun K hK => ?_)
    have HK := hide hK
    clear hK
    go_wp2_with fail
    refine (RingFlows_any Az zs.length cz _ zs _ hIAz.out (Nat.le_refl _) hcap).mono ?_; rintro e w14 ⟨Ar, cr, rfl, hcr, hcrm, hO, hb⟩
    have B14 := hide (below_next B13.out hb)
    replace hIAz := hide ((hIAz.out.below hb (Nat.le_refl _)).more (hb).size)
    replace hIM := hide ((hIM.out.below hb (Nat.le_refl _)).more (hb).size)
    replace hIN_ := hide ((hIN_.out.below hb (Nat.le_refl _)).more (hb).size)
    replace hIAf := hide ((hIAf.out.below hb (Nat.le_refl _)).more (hb).size)
    replace hIAg := hide ((hIAg.out.below hb (Nat.le_refl _)).more (hb).size)
    clear B13
    have hIAr := hide hO.ints
    clear hO hb
    go_wp2_with fail
    refine HK.out _ _ ?_
    clear HK
    refine wp_seq_k (fun K hK => ?_)
    have HK := hide hK
    clear hK
    go_wp2_with fail
    refine (specRingFlows_any Az zs.length cz _ zs _ hIAz.out (Nat.le_refl _) hcap).mono ?_; rintro e w15 ⟨As, cs, rfl, hcs, hcsm, hO, hb⟩
    have B15 := hide (below_next B14.out hb)
    replace hIAz := hide ((hIAz.out.below hb (Nat.le_refl _)).more (hb).size)
    replace hIM := hide ((hIM.out.below hb (Nat.le_refl _)).more (hb).size)
    replace hIN_ := hide ((hIN_.out.below hb (Nat.le_refl _)).more (hb).size)
    replace hIAf := hide ((hIAf.out.below hb (Nat.le_refl _)).more (hb).size)
    replace hIAg := hide ((hIAg.out.below hb (Nat.le_refl _)).more (hb).size)
    replace hIAr := hide ((hIAr.out.below hb (Nat.le_refl _)).more (hb).size)
    clear B14
    have hIAs := hide hO.ints
    clear hO hb
    go_wp2_with fail
    refine HK.out _ _ ?_
    clear HK
    refine wp_seq_k (fun K hK => ?_)
    have HK := hide hK
    clear hK
    go_wp2_with fail
    refine (MostCarried_any Az zs.length cz _ zs _ hIAz.out (Nat.le_refl _) hcap).mono ?_; rintro e w16 ⟨rfl, hb⟩
    have B16 := hide (below_next B15.out hb)
    replace hIAz := hide ((hIAz.out.below hb (Nat.le_refl _)).more (hb).size)
    replace hIM := hide ((hIM.out.below hb (Nat.le_refl _)).more (hb).size)
    replace hIN_ := hide ((hIN_.out.below hb (Nat.le_refl _)).more (hb).size)
    replace hIAf := hide ((hIAf.out.below hb (Nat.le_refl _)).more (hb).size)
    replace hIAg := hide ((hIAg.out.below hb (Nat.le_refl _)).more (hb).size)
    replace hIAr := hide ((hIAr.out.below hb (Nat.le_refl _)).more (hb).size)
    replace hIAs := hide ((hIAs.out.below hb (Nat.le_refl _)).more (hb).size)
    clear B15
    clear hb
    go_wp2_with fail
    refine HK.out _ _ ?_
    clear HK
    refine wp_seq_k (fun K hK => ?_)
    have HK := hide hK
    clear hK
    go_wp2_with fail
    refine (specMostCarried_any Az zs.length cz _ zs _ hIAz.out (Nat.le_refl _) hcap).mono ?_; rintro e w17 ⟨rfl, hb⟩
    have B17 := hide (below_next B16.out hb)
    replace hIAz := hide ((hIAz.out.below hb (Nat.le_refl _)).more (hb).size)
    replace hIM := hide ((hIM.out.below hb (Nat.le_refl _)).more (hb).size)
    replace hIN_ := hide ((hIN_.out.below hb (Nat.le_refl _)).more (hb).size)
    replace hIAf := hide ((hIAf.out.below hb (Nat.le_refl _)).more (hb).size)
    replace hIAg := hide ((hIAg.out.below hb (Nat.le_refl _)).more (hb).size)
    replace hIAr := hide ((hIAr.out.below hb (Nat.le_refl _)).more (hb).size)
    replace hIAs := hide ((hIAs.out.below hb (Nat.le_refl _)).more (hb).size)
    clear B16
    clear hb
    go_wp2_with fail
    refine HK.out _ _ ?_
    clear HK
    refine wp_seq_k (fun K hK => ?_)
    have HK := hide hK
    clear hK
    go_wp2_with fail
    refine (CanBeEqual_any Az zs.length cz _ zs _ hIAz.out hcap).mono ?_; rintro e w18 ⟨rfl, dm, rfl⟩
    have hb : Below w17.heap.size w17 (w17.drewN dm) := below_drewN (Below.refl _ _) dm
    generalize w17.drewN dm = w18 at *
    have B18 := hide (below_next B17.out hb)
    replace hIAz := hide ((hIAz.out.below hb (Nat.le_refl _)).more (hb).size)
    replace hIM := hide ((hIM.out.below hb (Nat.le_refl _)).more (hb).size)
    replace hIN_ := hide ((hIN_.out.below hb (Nat.le_refl _)).more (hb).size)
    replace hIAf := hide ((hIAf.out.below hb (Nat.le_refl _)).more (hb).size)
    replace hIAg := hide ((hIAg.out.below hb (Nat.le_refl _)).more (hb).size)
    replace hIAr := hide ((hIAr.out.below hb (Nat.le_refl _)).more (hb).size)
    replace hIAs := hide ((hIAs.out.below hb (Nat.le_refl _)).more (hb).size)
    clear B17
    clear hb
    go_wp2_with fail
    refine HK.out _ _ ?_
    clear HK
    refine wp_seq_k (fun K hK => ?_)
    have HK := hide hK
    clear hK
    go_wp2_with fail
    refine (specCanBeEqual_any Az zs.length cz _ zs _ hIAz.out hcap).mono ?_; rintro e _ ⟨rfl, rfl⟩
    go_wp2_with fail
    refine HK.out _ _ ?_
    clear HK
    have hml : Hid ((shareL zs).length ≤ 20 ∧ (flowsR zs).length ≤ 12 ∧ (ringR zs).length ≤ 12) := hide (by
      have a := moves_len (over zs); rw [over_length] at a
      refine ⟨?_, (flowsR_small zs).2, (ringR_small zs).2⟩
      unfold shareL
      by_cases he : eqOk zs = true
      · rw [if_pos he]; omega
      · rw [if_neg he]; exact Nat.zero_le _)
    exact HzG w _ zs (eqOk zs) (good zs) (fewOk zs) rfl rfl rfl (shareL zs) (flowsR zs) (ringR zs) (gainN zs) (fewN zs) (sizes (flowsR zs)) (sizes (ringR zs)) (most (flowsR zs)) (hide (fun h => ⟨(by unfold shareL; exact if_pos h), flowsR_yes h, ringR_yes h, rfl, rfl, by rw [flowsR_yes h], by rw [ringR_yes h], by rw [flowsR_yes h]⟩)) hml h20Az Az cz hIAz hcz hczm Af cf hIAf hcf hcfm Ag cg hIAg hcg hcgm Ar cr hIAr hcr hcrm As cs hIAs hcs hcsm AM AN_ cM cN hIM hIN_ B18 _ _ _ _ _ _ _ _ _ _ _ _ _ _ _ _ _ _ _ _ _ _ _ _ _ _ _ _ _ _ _ _ _ _ _ _ _ _ _ _ _ _ _ _ _ _ _ _ _ _ _ _ _ _ _ _ _ _ _ _ _ _ _ _ _ _ _ _ _ _ _ _ _ _ _ _ _ _ _ _ _ _ _ _ _ _ _ _ _ _ _ _ _ _ _ _ _ _ _ _ _ _ _ _ _ _ _ _ _ _ _ _ _ _ _ _ _ _ _ _ _ _ _ _ _ _ _ _ _ _ _ _ _ _ _ _ _ _ _ _ _ _ _ _ _ _ _ _ _ _ _ _ _ _ _ _ _ _ _ _ _ _ _ _ _ _ _ _ _ _ _ _ _ _ _ _ _ _ _ _ _ _ _ _ _ _ _ _ _ _ _ _ _ _ _ _ _ _ _ 
  · go_enter Try.func3, Try.ntmps3
    go_wp2_with fail
    refine (big_yes A A' n c n' c' _ hbig).mono ?_; rintro e w' ⟨rfl, rfl⟩
    go_wp2_with fail
    go_ret
    exact ⟨rfl, Below.refl _ _⟩
end Go.Proofs.Ytediapekgbekeaa
