import Derived.Test.YtcbcgapnoompbaaMg32
import Derived.Test.YtcbcgapnoompbaaMg44
import Derived.Test.YtcbcgapnoompbaaMg36

/-
  FnRingsBefore: the rings before.
-/
namespace Go.Proofs.Ytcbcgapnoompbaa
open Go.RowKit Go.Deep
set_option linter.unusedVariables false

set_option maxRecDepth 100000 in
set_option maxHeartbeats 100000000 in
theorem RzB (w W : World) (A' : Option Addr) (n' c' : Nat) (hYm : Hid (Bys W W.heap.size A' n')) (hn' : n' ≤ 1048576) (zs : List Int) (h20 : zs.length ≤ 20) (Ag : Option Addr) (cg : Nat) (hIAg : Hid (Ints W W.heap.size Ag zs.length zs)) (hcg : zs.length ≤ cg) (hcgm : cg ≤ maxLen) (Ax : Option Addr) (cx : Nat) (hIAx : Hid (Ints W W.heap.size Ax (rstepR zs).length (rstepR zs))) (hcx : (rstepR zs).length ≤ cx) (hcxm : cx ≤ maxLen) (Am : Option Addr) (cm : Nat) (hIAm : Hid (Ints W W.heap.size Am (rmirR zs).length (rmirR zs))) (hcm : (rmirR zs).length ≤ cm) (hcmm : cm ≤ maxLen) (bok bfive : Bool) (hbok : bok = rsmall zs) (hbfive : bfive = rgood zs) (Ab : Option Addr) (cb : Nat) (vs : List Value) (hV : Hid (Vals W W.heap.size Ab (befR zs).length vs)) (hR : Hid (IntVs W W.heap.size vs (befR zs))) (hCap : Hid (∀ k, k < (befR zs).length → ∃ A c, vs.getD k undef = .slice A ((befR zs).getD k []).length c ∧ ((befR zs).getD k []).length ≤ c ∧ c ≤ maxLen)) (hB : Hid (Below w.heap.size w W)) (u0 u2 u3 u4 u8 u9 u11 u12 u13 u15 u16 u17 u20 u21 u23 u24 u25 u26 u27 u28 u29 u30 u31 u32 u33 u34 u35 u36 u37 u38 u39 u40 u41 u42 u43 u44 u45 u46 u47 u48 u49 u50 u51 u52 u53 u54 u55 u56 u57 u58 u59 u60 u61 u62 u63 u64 u65 u66 u67 u68 u69 u70 u71 u72 u73 u74 u75 u76 u77 u78 u79 u80 u81 u82 u83 u84 u85 u86 u87 u88 u89 u90 u91 u92 u93 u94 u95 u96 u97 u98 u99 u100 u101 u102 u103 u104 u105 u106 u107 u108 u109 u110 u111 u112 u113 u114 u115 u116 u117 u118 u119 u120 u121 u122 u123 u124 u125 u126 u127 u128 u129 u130 u131 u132 u133 u134 u135 u136 u137 u138 u139 u140 u141 u142 u143 u144 u145 u146 u147 u148 u149 u150 u151 u152 u153 u154 u155 u156 u157 u158 u159 u160 u161 u162 u163 u164 u165 u166 u167 u168 u169 u170 u171 u172 u173 u174 u175 u176 u177 u178 u179 u180 u181 u182 u183 u184 u185 u186 u187 u188 u189 u190 u191 u192 u193 u194 u195 u196 u197 u198 u199 u200 u201 u202 u203 u204 u205 u206 u207 u208 u209 u210 u211 u212 u213 u214 u215 u216 u217 u218 u219 u220 u221 u222 u223 u224 u225 u226 u227 u228 u229 u230 u231 u232 u233 u234 u235 u236 u237 u238 u239 u240 u241 u242 u243 u244 u245 u246 u247 u248 u249 u250 u251 u252 u253 u254 u255 u256 u257 u258 u259 u260 u261 u262 u263 u264 u265 u266 u267 u268 u269 u270 u271 u272 u273 u274 u275 u276 u277 u278 u279 u280 u281 u282 u283 u284 u285 u286 u287 u288 u289 u290 u291 u292 u293 u294 u295 u296 u297 u298 u299 u300 u301 u302 u303 u304 u305 u306 u307 u308 u309 u310 u311 u312 u313 u314 u315 u316 u317 u318 u319 u320 u321 u322 u323 u324 u325 u326 u327 u328 u329 u330 u331 u332 u333 u334 u335 u336 u337 u338 u339 u340 u341 u342 u343 u344 u345 u346 u347 u348 u349 u350 u351 u352 u353 u354 u355 u356 u357 u358 u359 u360 u361 u362 u363 u364 u365 u366 u367 u368 u369 u370 u371 u372 u373 u374 u375 u376 u377 u378 u379 u380 u381 u382 u383 u384 u385 u386 u387 u388 u389 u390 u391 u392 u393 u394 u395 u396 u397 u398 u399 u400 u401 u402 u403 u404 u405 u406 u407 u408 u409 u410 u411 u412 u413 u414 u415 u416 u417 u418 u419 u420 u421 u422 u423 u424 u425 u426 u427 u428 u429 u430 u431 u432 u433 u434 u435 u436 u437 u438 u439 u440 u441 u442 u443 u444 u445 u446 u447 u448 u449 u450 u451 u452 u453 u454 u455 u456 u457 u458 u459 u460 u461 u462 u463 u464 u465 u466 u467 u468 u469 u470 u471 u472 u473 u474 u475 u476 u477 u478 u479 u480 u481 u482 u483 u484 u485 u486 u487 u488 u489 u490 u491 u492 u493 u494 u495 u496 u497 u498 u499 u500 u501 u502 u503 u504 u505 u506 u507 u508 u509 u510 u511 u512 u513 u514 u515 u516 u517 u518 u519 u520 u521 u522 u523 u524 u525 u526 u527 u528 u529 u530 u531 u532 u533 u534 u535 u536 u537 u538 u539 u540 u541 u542 u543 u544 u545 u546 u547 u548 u549 u550 u551 : Value) :
    Code.wp Try.prog (tailN 14 bodyRB) (bodyPost Try.prog Try.f3 (fun e w' => e = .returned (.bool true) ∧ Below w.heap.size w w')) ⟨#[u0, Value.slice A' n' c', u2, u3, u4, Value.slice Ag zs.length cg, Value.slice Ab (befR zs).length cb, Value.bool bok, u8, u9, Value.int .i64 ((befR zs).length : Int), u11, u12, u13, Value.bool (decide (0 < (befR zs).length)), u15, u16, u17, Value.slice Ax (rstepR zs).length cx, Value.bool bfive, u20, u21, Value.slice Am (rmirR zs).length cm, u23, u24, u25, u26, u27, u28, u29, u30, u31, u32, u33, u34, u35, u36, u37, u38, u39, u40, u41, u42, u43, u44, u45, u46, u47, u48, u49, u50, u51, u52, u53, u54, u55, u56, u57, u58, u59, u60, u61, u62, u63, u64, u65, u66, u67, u68, u69, u70, u71, u72, u73, u74, u75, u76, u77, u78, u79, u80, u81, u82, u83, u84, u85, u86, u87, u88, u89, u90, u91, u92, u93, u94, u95, u96, u97, u98, u99, u100, u101, u102, u103, u104, u105, u106, u107, u108, u109, u110, u111, u112, u113, u114, u115, u116, u117, u118, u119, u120, u121, u122, u123, u124, u125, u126, u127, u128, u129, u130, u131, u132, u133, u134, u135, u136, u137, u138, u139, u140, u141, u142, u143, u144, u145, u146, u147, u148, u149, u150, u151, u152, u153, u154, u155, u156, u157, u158, u159, u160, u161, u162, u163, u164, u165, u166, u167, u168, u169, u170, u171, u172, u173, u174, u175, u176, u177, u178, u179, u180, u181, u182, u183, u184, u185, u186, u187, u188, u189, u190, u191, u192, u193, u194, u195, u196, u197, u198, u199, u200, u201, u202, u203, u204, u205, u206, u207, u208, u209, u210, u211, u212, u213, u214, u215, u216, u217, u218, u219, u220, u221, u222, u223, u224, u225, u226, u227, u228, u229, u230, u231, u232, u233, u234, u235, u236, u237, u238, u239, u240, u241, u242, u243, u244, u245, u246, u247, u248, u249, u250, u251, u252, u253, u254, u255, u256, u257, u258, u259, u260, u261, u262, u263, u264, u265, u266, u267, u268, u269, u270, u271, u272, u273, u274, u275, u276, u277, u278, u279, u280, u281, u282, u283, u284, u285, u286, u287, u288, u289, u290, u291, u292, u293, u294, u295, u296, u297, u298, u299, u300, u301, u302, u303, u304, u305, u306, u307, u308, u309, u310, u311, u312, u313, u314, u315, u316, u317, u318, u319, u320, u321, u322, u323, u324, u325, u326, u327, u328, u329, u330, u331, u332, u333, u334, u335, u336, u337, u338, u339, u340, u341, u342, u343, u344, u345, u346, u347, u348, u349, u350, u351, u352, u353, u354, u355, u356, u357, u358, u359, u360, u361, u362, u363, u364, u365, u366, u367, u368, u369, u370, u371, u372, u373, u374, u375, u376, u377, u378, u379, u380, u381, u382, u383, u384, u385, u386, u387, u388, u389, u390, u391, u392, u393, u394, u395, u396, u397, u398, u399, u400, u401, u402, u403, u404, u405, u406, u407, u408, u409, u410, u411, u412, u413, u414, u415, u416, u417, u418, u419, u420, u421, u422, u423, u424, u425, u426, u427, u428, u429, u430, u431, u432, u433, u434, u435, u436, u437, u438, u439, u440, u441, u442, u443, u444, u445, u446, u447, u448, u449, u450, u451, u452, u453, u454, u455, u456, u457, u458, u459, u460, u461, u462, u463, u464, u465, u466, u467, u468, u469, u470, u471, u472, u473, u474, u475, u476, u477, u478, u479, u480, u481, u482, u483, u484, u485, u486, u487, u488, u489, u490, u491, u492, u493, u494, u495, u496, u497, u498, u499, u500, u501, u502, u503, u504, u505, u506, u507, u508, u509, u510, u511, u512, u513, u514, u515, u516, u517, u518, u519, u520, u521, u522, u523, u524, u525, u526, u527, u528, u529, u530, u531, u532, u533, u534, u535, u536, u537, u538, u539, u540, u541, u542, u543, u544, u545, u546, u547, u548, u549, u550, u551], []⟩ W := by
  conv => arg 2; whnf
  subst hbok
  subst hbfive
  refine wp_seq_k (fun K hK => ?_)
  have HK := hide (show ∀ a w', Code.wp Try.prog (tailN 15 bodyRB) (bodyPost Try.prog Try.f3 (fun e w' => e = .returned (.bool true) ∧ Below w.heap.size w w')) a w' → K a w' from hK)
  clear hK
  cases hok : rsmall zs
  · go_wp2_with fail
    exact HK.out _ _ (RzC w W A' n' c' (hide ((hYm.out.keep fun g hg => ((Below.refl W.heap.size W)).block g hg).more ((Below.refl W.heap.size W)).size)) hn' zs h20 Ag cg (hide ((hIAg.out.below (Below.refl W.heap.size W) (Nat.le_refl _)).more ((Below.refl W.heap.size W)).size)) hcg hcgm Ax cx (hide ((hIAx.out.below (Below.refl W.heap.size W) (Nat.le_refl _)).more ((Below.refl W.heap.size W)).size)) hcx hcxm Am cm (hide ((hIAm.out.below (Below.refl W.heap.size W) (Nat.le_refl _)).more ((Below.refl W.heap.size W)).size)) hcm hcmm (hide (hB.out.trans (((Below.refl W.heap.size W)).mono hB.out.size))) _ _ _ _ _ _ _ _ _ _ _ _ _ _ _ _ _ _ _ _ _ _ _ _ _ _ _ _ _ _ _ _ _ _ _ _ _ _ _ _ _ _ _ _ _ _ _ _ _ _ _ _ _ _ _ _ _ _ _ _ _ _ _ _ _ _ _ _ _ _ _ _ _ _ _ _ _ _ _ _ _ _ _ _ _ _ _ _ _ _ _ _ _ _ _ _ _ _ _ _ _ _ _ _ _ _ _ _ _ _ _ _ _ _ _ _ _ _ _ _ _ _ _ _ _ _ _ _ _ _ _ _ _ _ _ _ _ _ _ _ _ _ _ _ _ _ _ _ _ _ _ _ _ _ _ _ _ _ _ _ _ _ _ _ _ _ _ _ _ _ _ _ _ _ _ _ _ _ _ _ _ _ _ _ _ _ _ _ _ _ _ _ _ _ _ _ _ _ _ _ _ _ _ _ _ _ _ _ _ _ _ _ _ _ _ _ _ _ _ _ _ _ _ _ _ _ _ _ _ _ _ _ _ _ _ _ _ _ _ _ _ _ _ _ _ _ _ _ _ _ _ _ _ _ _ _ _ _ _ _ _ _ _ _ _ _ _ _ _ _ _ _ _ _ _ _ _ _ _ _ _ _ _ _ _ _ _ _ _ _ _ _ _ _ _ _ _ _ _ _ _ _ _ _ _ _ _ _ _ _ _ _ _ _ _ _ _ _ _ _ _ _ _ _ _ _ _ _ _ _ _ _ _ _ _ _ _ _ _ _ _ _ _ _ _ _ _ _ _ _ _ _ _ _ _ _ _ _ _ _ _ _ _ _ _ _ _ _ _ _ _ _ _ _ _ _ _ _ _ _ _ _ _ _ _ _ _ _ _ _ _ _ _ _ _ _ _ _ _ _ _ _ _ _ _ _ _ _ _ _ _ _ _ _ _ _ _ _ _ _ _ _ _ _ _ _ _ _ _ _ _ _ _ _ _ _ _ _ _ _ _ _ _ _ _ _ _ _ _ _ _ _ _ _ _ _ _ _ _ _ _ _ _ _ _ _ _ _ _ _ _ _ _ _ _ _ _ _ _ _ _ _ _ _ _ _ _ _ _ _ _ _ _ _ _ _ _ _ _ _ _ _ _ _ _ _ _ _ _ _ _ _ _ _ _ _ _ _ _ _ _ _ _ _ _ _ _ _ _ _ _ _ _ _ _ _ _ _ _ _ _ _ _ _ _ _ _ )
  · obtain ⟨hg, hbl⟩ := bef_good hok
    have hl10 : zs.length ≤ 17592186044416 := by omega
    obtain ⟨t0, t1, tw⟩ := tot_good hg
    clear hg
    have HS := hide (kSum_any Ag zs.length cg W.heap.size zs W hIAg.out (by omega) tw)
    have hl1 : (((befR zs).length : Int) != ((befR zs).length : Int)) = false := by simp
    have hok5 : True = True := rfl
    by_cases h0 : 0 < (befR zs).length
    · have hev := bef_even hok h0
      have h0i : (0 : Int) < ((befR zs).length : Int) := by omega
      have hd : decide (0 < (befR zs).length) = true := decide_eq_true h0
      rw [hd]
      have hev1 : (tot zs % 2 == 1) = false := by rw [hev]; rfl
      have HEV := hide hev1
      clear hev
      generalize tot zs = s at *
      clear tw
      go_wp2_with fail
      refine HS.out.mono ?_; rintro e _ ⟨rfl, rfl⟩
      go_wp2_with fail
      go_loopw [233] (fun i W' => ∃ k : Nat, k ≤ (befR zs).length ∧ i = .int .i64 k ∧ Hid (Below W.heap.size W W'))
        (fun i _ => (befR zs).length - (intOf i).toNat)
      case atStart => exact ⟨0, Nat.zero_le _, rfl, hide (Below.refl _ _)⟩
      case round =>
        obtain ⟨k, hk, rfl, HB⟩ := hrel
        by_cases hlt : k < (befR zs).length
        · obtain ⟨ad, rfl, _, hcell⟩ := (hV.out.below HB.out (Nat.le_refl _)).at_ hlt
          obtain ⟨Ar, cr, hrow, hcr, hcrm⟩ := hCap.out k hlt
          obtain ⟨Ar', cr', hrow', hIr'⟩ := hR.out.2 k hlt
          rw [hrow] at hrow'
          injection hrow' with e1 e2 e3
          subst e1
          clear e2 e3
          rw [hrow] at hcell
          obtain ⟨x, hx⟩ : ∃ x, (befR zs).getD k [] = x := ⟨_, rfl⟩
          obtain ⟨g1, g2, g3, g4, g5, g6⟩ := bef_row hok hlt hx
          rw [hx] at hcell hcr hIr'
          have hIr := hide hIr'
          have hxl : x.length ≤ 17592186044416 := by omega
          have hx0 : 0 < x.length := by omega
          have H1 := hide (RingStep_any Ar x.length cr W.heap.size x wr (hIr.out.below HB.out (Nat.le_refl _)) HB.out.size hxl hcr hcrm)
          have H3 := hide (fun W' (h : Below W.heap.size W W') => kLeast_any Ar x.length cr W.heap.size x W' (hIr.out.below h (Nat.le_refl _)) (by omega) hx0)
          rw [g2, g1] at H1
          rw [g4] at H3
          have HG3 := hide g3
          have HXX := hide hx
          have hlti : (k : Int) < ((befR zs).length : Int) := by omega
          clear g1 g2 g3 g4 hrow hx hIr'
          go_wp2_with fail
          refine H1.out.mono ?_; rintro e w1 ⟨A1, c1, rfl, _, _, hO1, hb1⟩
          have hI1 := hide hO1.ints
          have B1 := hide (HB.out.trans (hb1.mono HB.out.size))
          clear hO1 hb1
          go_wp2_with fail
          refine (kSame_same _ _ _ _ _ _ _ _ _ hI1.out (hIAg.out.below B1.out (Nat.le_refl _)) (Nat.le_refl _) B1.out.size hl10).mono ?_; rintro e w2 ⟨rfl, hb2⟩
          have B2 := hide (B1.out.trans (hb2.mono B1.out.size))
          clear hb2
          go_wp2_with fail
          refine (H3.out _ B2.out).mono ?_; rintro e _ ⟨rfl, rfl⟩
          cases k with
          | zero =>
            go_wp2_with fail
            go_roundw
            case rel => exact ⟨0 + 1, by omega, by first | rfl | kernel_rfl, B2⟩
            case measure => first | (simp [intOf]; done) | (simp [intOf]; omega) | decide
          | succ j =>
            have hj : j < (befR zs).length := by omega
            obtain ⟨ad', had, _, hcellp⟩ := (hV.out.below B2.out (Nat.le_refl _)).at_ hj
            injection had with had
            subst had
            obtain ⟨Ap, cp, hrowp, hcp, hcpm⟩ := hCap.out j hj
            obtain ⟨Ap', cp', hrowp', hIp'⟩ := hR.out.2 j hj
            rw [hrowp] at hrowp'
            injection hrowp' with e1 e2 e3
            subst e1
            clear e2 e3
            rw [hrowp] at hcellp
            obtain ⟨y, hy⟩ : ∃ y, (befR zs).getD j [] = y := ⟨_, rfl⟩
            obtain ⟨q1, q2, q3, q4, q5, q6⟩ := bef_row hok hj hy
            have hlex := bef_less hok hlt
            rw [HXX.out, hy] at hlex
            rw [hy] at hcellp hIp'
            have hIp := hide hIp'
            have HLX := hide hlex
            have HYL := hide (q3.trans HG3.out.symm)
            have e1 : ((j + 1 : Nat) : Int) - 1 = (j : Int) := by omega
            have e2 : (0 : Int) < ((j + 1 : Nat) : Int) := by omega
            have e3 : (j : Int) < ((befR zs).length : Int) := by omega
            clear q1 q2 q3 q4 hrowp hy hIp' hlex hcell H1 H3 hI1 B1 HB
            go_wp2_with fail
            go_loopw [260] (fun i W' => ∃ q : Nat, q ≤ x.length ∧ i = .int .i64 q ∧ Hid (lexLt (y.drop q) (x.drop q) = true) ∧ ∃ m, W' = w2.drewN m)
              (fun i _ => x.length - (intOf i).toNat)
            case atStart => exact ⟨0, Nat.zero_le _, rfl, hide HLX.out, 0, rfl⟩
            case round =>
              obtain ⟨q, hq, rfl, HLq, m, rfl⟩ := hrel
              by_cases hqx : q < x.length
              · have hqy : q < y.length := by have := HYL.out; omega
                have HST := hide (lexLt_step (x := y) (y := x) (k := q) hqy hqx)
                obtain ⟨adx, rfl, _, hcx⟩ := (hIr.out.below B2.out (Nat.le_refl _)).at_ hqx
                obtain ⟨ady, rfl, _, hcy⟩ := (hIp.out.below B2.out (Nat.le_refl _)).at_ hqy
                have hcx : (w2.drewN m).cell? (adx.add q) = some (.int .i64 (x.getD q 0)) := hcx
                have hcy : (w2.drewN m).cell? (ady.add q) = some (.int .i64 (y.getD q 0)) := hcy
                have hqi : (q : Int) < (x.length : Int) := by omega
                have hqj : (q : Int) < (y.length : Int) := by omega
                have hcp : (w2.drewN m).cell? (ad.add j) = some (.slice (some ady) y.length cp) := hcellp
                generalize x.getD q 0 = u at *
                generalize y.getD q 0 = v at *
                by_cases huv : v = u
                · have HN := hide (show lexLt (y.drop (q + 1)) (x.drop (q + 1)) = true from by have := HST.out; rw [if_pos huv] at this; rw [← this]; exact HLq.out)
                  have hne : (v != u) = false := by simpa using huv
                  clear huv
                  go_wp2_with fail
                  go_region
                  go_wp2_with fail
                  go_roundw
                  case rel => exact ⟨q + 1, by omega, by go_num, HN, _, rfl⟩
                  case measure => simp [intOf]; omega
                · have hvu : v < u := by have := HST.out; rw [if_neg huv, HLq.out] at this; simpa using this.symm
                  have hne : (v != u) = true := by simpa using huv
                  clear huv
                  go_wp2_with fail
                  go_region
                  go_wp2_with fail
                  go_region
                  go_wp2_with fail
                  go_roundw
                  case rel => exact ⟨j + 1 + 1, by omega, by go_num, hide (below_drewN B2.out _)⟩
                  case measure => simp [intOf]; omega
              · exact absurd (HLq.out.symm.trans (lexLt_end (by have := HYL.out; omega) (by omega))) (by simp)
        · have hlti : ¬ (k : Int) < ((befR zs).length : Int) := by omega
          go_wp2_with fail
          exact HK.out _ _ (RzC w _ A' n' c' (hide ((hYm.out.keep fun g hg => (HB.out).block g hg).more (HB.out).size)) hn' zs h20 Ag cg (hide ((hIAg.out.below HB.out (Nat.le_refl _)).more (HB.out).size)) hcg hcgm Ax cx (hide ((hIAx.out.below HB.out (Nat.le_refl _)).more (HB.out).size)) hcx hcxm Am cm (hide ((hIAm.out.below HB.out (Nat.le_refl _)).more (HB.out).size)) hcm hcmm (hide (hB.out.trans ((HB.out).mono hB.out.size))) _ _ _ _ _ _ _ _ _ _ _ _ _ _ _ _ _ _ _ _ _ _ _ _ _ _ _ _ _ _ _ _ _ _ _ _ _ _ _ _ _ _ _ _ _ _ _ _ _ _ _ _ _ _ _ _ _ _ _ _ _ _ _ _ _ _ _ _ _ _ _ _ _ _ _ _ _ _ _ _ _ _ _ _ _ _ _ _ _ _ _ _ _ _ _ _ _ _ _ _ _ _ _ _ _ _ _ _ _ _ _ _ _ _ _ _ _ _ _ _ _ _ _ _ _ _ _ _ _ _ _ _ _ _ _ _ _ _ _ _ _ _ _ _ _ _ _ _ _ _ _ _ _ _ _ _ _ _ _ _ _ _ _ _ _ _ _ _ _ _ _ _ _ _ _ _ _ _ _ _ _ _ _ _ _ _ _ _ _ _ _ _ _ _ _ _ _ _ _ _ _ _ _ _ _ _ _ _ _ _ _ _ _ _ _ _ _ _ _ _ _ _ _ _ _ _ _ _ _ _ _ _ _ _ _ _ _ _ _ _ _ _ _ _ _ _ _ _ _ _ _ _ _ _ _ _ _ _ _ _ _ _ _ _ _ _ _ _ _ _ _ _ _ _ _ _ _ _ _ _ _ _ _ _ _ _ _ _ _ _ _ _ _ _ _ _ _ _ _ _ _ _ _ _ _ _ _ _ _ _ _ _ _ _ _ _ _ _ _ _ _ _ _ _ _ _ _ _ _ _ _ _ _ _ _ _ _ _ _ _ _ _ _ _ _ _ _ _ _ _ _ _ _ _ _ _ _ _ _ _ _ _ _ _ _ _ _ _ _ _ _ _ _ _ _ _ _ _ _ _ _ _ _ _ _ _ _ _ _ _ _ _ _ _ _ _ _ _ _ _ _ _ _ _ _ _ _ _ _ _ _ _ _ _ _ _ _ _ _ _ _ _ _ _ _ _ _ _ _ _ _ _ _ _ _ _ _ _ _ _ _ _ _ _ _ _ _ _ _ _ _ _ _ _ _ _ _ _ _ _ _ _ _ _ _ _ _ _ _ _ _ _ _ _ _ _ _ _ _ _ _ _ _ _ _ _ _ _ _ _ _ _ _ _ _ _ _ _ _ _ _ _ _ _ _ _ _ _ _ _ _ _ _ _ _ _ _ _ _ _ _ _ _ _ _ _ _ _ _ _ _ _ _ _ _ _ _ _ _ _ _ _ _ _ _ _ _ )
    · have hd : decide (0 < (befR zs).length) = false := decide_eq_false h0
      have h0i : ¬ (0 : Int) < ((befR zs).length : Int) := by omega
      rw [hd]
      generalize tot zs = s at *
      clear tw
      have hz : (befR zs).length = 0 := by omega
      have hV' := hV
      clear hR hCap
      by_cases hev1 : s % 2 = 1
      all_goals
        go_wp2_with fail
        refine HS.out.mono ?_; rintro e _ ⟨rfl, rfl⟩
        go_wp2_with fail
        refine wp_loop_rounds 1 ?_
        rw [rounds_succ]
        go_wp2_with fail
        exact HK.out _ _ (RzC w _ A' n' c' (hide ((hYm.out.keep fun g hg => ((Below.refl W.heap.size W)).block g hg).more ((Below.refl W.heap.size W)).size)) hn' zs h20 Ag cg (hide ((hIAg.out.below (Below.refl W.heap.size W) (Nat.le_refl _)).more ((Below.refl W.heap.size W)).size)) hcg hcgm Ax cx (hide ((hIAx.out.below (Below.refl W.heap.size W) (Nat.le_refl _)).more ((Below.refl W.heap.size W)).size)) hcx hcxm Am cm (hide ((hIAm.out.below (Below.refl W.heap.size W) (Nat.le_refl _)).more ((Below.refl W.heap.size W)).size)) hcm hcmm (hide (hB.out.trans (((Below.refl W.heap.size W)).mono hB.out.size))) _ _ _ _ _ _ _ _ _ _ _ _ _ _ _ _ _ _ _ _ _ _ _ _ _ _ _ _ _ _ _ _ _ _ _ _ _ _ _ _ _ _ _ _ _ _ _ _ _ _ _ _ _ _ _ _ _ _ _ _ _ _ _ _ _ _ _ _ _ _ _ _ _ _ _ _ _ _ _ _ _ _ _ _ _ _ _ _ _ _ _ _ _ _ _ _ _ _ _ _ _ _ _ _ _ _ _ _ _ _ _ _ _ _ _ _ _ _ _ _ _ _ _ _ _ _ _ _ _ _ _ _ _ _ _ _ _ _ _ _ _ _ _ _ _ _ _ _ _ _ _ _ _ _ _ _ _ _ _ _ _ _ _ _ _ _ _ _ _ _ _ _ _ _ _ _ _ _ _ _ _ _ _ _ _ _ _ _ _ _ _ _ _ _ _ _ _ _ _ _ _ _ _ _ _ _ _ _ _ _ _ _ _ _ _ _ _ _ _ _ _ _ _ _ _ _ _ _ _ _ _ _ _ _ _ _ _ _ _ _ _ _ _ _ _ _ _ _ _ _ _ _ _ _ _ _ _ _ _ _ _ _ _ _ _ _ _ _ _ _ _ _ _ _ _ _ _ _ _ _ _ _ _ _ _ _ _ _ _ _ _ _ _ _ _ _ _ _ _ _ _ _ _ _ _ _ _ _ _ _ _ _ _ _ _ _ _ _ _ _ _ _ _ _ _ _ _ _ _ _ _ _ _ _ _ _ _ _ _ _ _ _ _ _ _ _ _ _ _ _ _ _ _ _ _ _ _ _ _ _ _ _ _ _ _ _ _ _ _ _ _ _ _ _ _ _ _ _ _ _ _ _ _ _ _ _ _ _ _ _ _ _ _ _ _ _ _ _ _ _ _ _ _ _ _ _ _ _ _ _ _ _ _ _ _ _ _ _ _ _ _ _ _ _ _ _ _ _ _ _ _ _ _ _ _ _ _ _ _ _ _ _ _ _ _ _ _ _ _ _ _ _ _ _ _ _ _ _ _ _ _ _ _ _ _ _ _ _ _ _ _ _ _ _ _ _ _ _ _ _ _ _ _ _ _ _ _ _ _ _ _ _ _ _ _ _ _ _ _ _ _ _ _ _ _ _ _ _ _ _ _ _ _ _ _ _ _ _ _ _ _ _ _ _ _ _ _ _ _ _ _ _ _ _ _ _ _ _ _ _ _ _ _ _ _ _ _ )
end Go.Proofs.Ytcbcgapnoompbaa
