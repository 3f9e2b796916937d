import Derived.Test.YtcbcgapnoompbaaMg30
import Derived.Test.YtcbcgapnoompbaaMg31

/-
  FnRingsBefore: the mirrored ring.
-/
namespace Go.Proofs.Ytcbcgapnoompbaa
open Go.RowKit Go.Deep
set_option linter.unusedVariables false

set_option maxRecDepth 100000 in
set_option maxHeartbeats 100000000 in
theorem RzC (w W : World) (A' : Option Addr) (n' c' : Nat) (hYm : Hid (Bys W W.heap.size A' n')) (hn' : n' ≤ 1048576) (zs : List Int) (h20 : zs.length ≤ 20) (Ag : Option Addr) (cg : Nat) (hIAg : Hid (Ints W W.heap.size Ag zs.length zs)) (hcg : zs.length ≤ cg) (hcgm : cg ≤ maxLen) (Ax : Option Addr) (cx : Nat) (hIAx : Hid (Ints W W.heap.size Ax (rstepR zs).length (rstepR zs))) (hcx : (rstepR zs).length ≤ cx) (hcxm : cx ≤ maxLen) (Am : Option Addr) (cm : Nat) (hIAm : Hid (Ints W W.heap.size Am (rmirR zs).length (rmirR zs))) (hcm : (rmirR zs).length ≤ cm) (hcmm : cm ≤ maxLen) (hB : Hid (Below w.heap.size w W)) (u0 u2 u3 u4 u6 u7 u8 u9 u10 u11 u12 u13 u14 u15 u16 u17 u20 u21 u23 u24 u25 u26 u27 u28 u29 u30 u31 u32 u33 u34 u35 u36 u37 u38 u39 u40 u41 u42 u43 u44 u45 u46 u47 u48 u49 u50 u51 u52 u53 u54 u55 u56 u57 u58 u59 u60 u61 u62 u63 u64 u65 u66 u67 u68 u69 u70 u71 u72 u73 u74 u75 u76 u77 u78 u79 u80 u81 u82 u83 u84 u85 u86 u87 u88 u89 u90 u91 u92 u93 u94 u95 u96 u97 u98 u99 u100 u101 u102 u103 u104 u105 u106 u107 u108 u109 u110 u111 u112 u113 u114 u115 u116 u117 u118 u119 u120 u121 u122 u123 u124 u125 u126 u127 u128 u129 u130 u131 u132 u133 u134 u135 u136 u137 u138 u139 u140 u141 u142 u143 u144 u145 u146 u147 u148 u149 u150 u151 u152 u153 u154 u155 u156 u157 u158 u159 u160 u161 u162 u163 u164 u165 u166 u167 u168 u169 u170 u171 u172 u173 u174 u175 u176 u177 u178 u179 u180 u181 u182 u183 u184 u185 u186 u187 u188 u189 u190 u191 u192 u193 u194 u195 u196 u197 u198 u199 u200 u201 u202 u203 u204 u205 u206 u207 u208 u209 u210 u211 u212 u213 u214 u215 u216 u217 u218 u219 u220 u221 u222 u223 u224 u225 u226 u227 u228 u229 u230 u231 u232 u233 u234 u235 u236 u237 u238 u239 u240 u241 u242 u243 u244 u245 u246 u247 u248 u249 u250 u251 u252 u253 u254 u255 u256 u257 u258 u259 u260 u261 u262 u263 u264 u265 u266 u267 u268 u269 u270 u271 u272 u273 u274 u275 u276 u277 u278 u279 u280 u281 u282 u283 u284 u285 u286 u287 u288 u289 u290 u291 u292 u293 u294 u295 u296 u297 u298 u299 u300 u301 u302 u303 u304 u305 u306 u307 u308 u309 u310 u311 u312 u313 u314 u315 u316 u317 u318 u319 u320 u321 u322 u323 u324 u325 u326 u327 u328 u329 u330 u331 u332 u333 u334 u335 u336 u337 u338 u339 u340 u341 u342 u343 u344 u345 u346 u347 u348 u349 u350 u351 u352 u353 u354 u355 u356 u357 u358 u359 u360 u361 u362 u363 u364 u365 u366 u367 u368 u369 u370 u371 u372 u373 u374 u375 u376 u377 u378 u379 u380 u381 u382 u383 u384 u385 u386 u387 u388 u389 u390 u391 u392 u393 u394 u395 u396 u397 u398 u399 u400 u401 u402 u403 u404 u405 u406 u407 u408 u409 u410 u411 u412 u413 u414 u415 u416 u417 u418 u419 u420 u421 u422 u423 u424 u425 u426 u427 u428 u429 u430 u431 u432 u433 u434 u435 u436 u437 u438 u439 u440 u441 u442 u443 u444 u445 u446 u447 u448 u449 u450 u451 u452 u453 u454 u455 u456 u457 u458 u459 u460 u461 u462 u463 u464 u465 u466 u467 u468 u469 u470 u471 u472 u473 u474 u475 u476 u477 u478 u479 u480 u481 u482 u483 u484 u485 u486 u487 u488 u489 u490 u491 u492 u493 u494 u495 u496 u497 u498 u499 u500 u501 u502 u503 u504 u505 u506 u507 u508 u509 u510 u511 u512 u513 u514 u515 u516 u517 u518 u519 u520 u521 u522 u523 u524 u525 u526 u527 u528 u529 u530 u531 u532 u533 u534 u535 u536 u537 u538 u539 u540 u541 u542 u543 u544 u545 u546 u547 u548 u549 u550 u551 : Value) :
    Code.wp Try.prog (tailN 15 bodyRB) (bodyPost Try.prog Try.f3 (fun e w' => e = .returned (.bool true) ∧ Below w.heap.size w w')) ⟨#[u0, Value.slice A' n' c', u2, u3, u4, Value.slice Ag zs.length cg, u6, u7, u8, u9, u10, u11, u12, u13, u14, u15, u16, u17, Value.slice Ax (rstepR zs).length cx, Value.bool (rgood zs), u20, u21, Value.slice Am (rmirR zs).length cm, u23, u24, u25, u26, u27, u28, u29, u30, u31, u32, u33, u34, u35, u36, u37, u38, u39, u40, u41, u42, u43, u44, u45, u46, u47, u48, u49, u50, u51, u52, u53, u54, u55, u56, u57, u58, u59, u60, u61, u62, u63, u64, u65, u66, u67, u68, u69, u70, u71, u72, u73, u74, u75, u76, u77, u78, u79, u80, u81, u82, u83, u84, u85, u86, u87, u88, u89, u90, u91, u92, u93, u94, u95, u96, u97, u98, u99, u100, u101, u102, u103, u104, u105, u106, u107, u108, u109, u110, u111, u112, u113, u114, u115, u116, u117, u118, u119, u120, u121, u122, u123, u124, u125, u126, u127, u128, u129, u130, u131, u132, u133, u134, u135, u136, u137, u138, u139, u140, u141, u142, u143, u144, u145, u146, u147, u148, u149, u150, u151, u152, u153, u154, u155, u156, u157, u158, u159, u160, u161, u162, u163, u164, u165, u166, u167, u168, u169, u170, u171, u172, u173, u174, u175, u176, u177, u178, u179, u180, u181, u182, u183, u184, u185, u186, u187, u188, u189, u190, u191, u192, u193, u194, u195, u196, u197, u198, u199, u200, u201, u202, u203, u204, u205, u206, u207, u208, u209, u210, u211, u212, u213, u214, u215, u216, u217, u218, u219, u220, u221, u222, u223, u224, u225, u226, u227, u228, u229, u230, u231, u232, u233, u234, u235, u236, u237, u238, u239, u240, u241, u242, u243, u244, u245, u246, u247, u248, u249, u250, u251, u252, u253, u254, u255, u256, u257, u258, u259, u260, u261, u262, u263, u264, u265, u266, u267, u268, u269, u270, u271, u272, u273, u274, u275, u276, u277, u278, u279, u280, u281, u282, u283, u284, u285, u286, u287, u288, u289, u290, u291, u292, u293, u294, u295, u296, u297, u298, u299, u300, u301, u302, u303, u304, u305, u306, u307, u308, u309, u310, u311, u312, u313, u314, u315, u316, u317, u318, u319, u320, u321, u322, u323, u324, u325, u326, u327, u328, u329, u330, u331, u332, u333, u334, u335, u336, u337, u338, u339, u340, u341, u342, u343, u344, u345, u346, u347, u348, u349, u350, u351, u352, u353, u354, u355, u356, u357, u358, u359, u360, u361, u362, u363, u364, u365, u366, u367, u368, u369, u370, u371, u372, u373, u374, u375, u376, u377, u378, u379, u380, u381, u382, u383, u384, u385, u386, u387, u388, u389, u390, u391, u392, u393, u394, u395, u396, u397, u398, u399, u400, u401, u402, u403, u404, u405, u406, u407, u408, u409, u410, u411, u412, u413, u414, u415, u416, u417, u418, u419, u420, u421, u422, u423, u424, u425, u426, u427, u428, u429, u430, u431, u432, u433, u434, u435, u436, u437, u438, u439, u440, u441, u442, u443, u444, u445, u446, u447, u448, u449, u450, u451, u452, u453, u454, u455, u456, u457, u458, u459, u460, u461, u462, u463, u464, u465, u466, u467, u468, u469, u470, u471, u472, u473, u474, u475, u476, u477, u478, u479, u480, u481, u482, u483, u484, u485, u486, u487, u488, u489, u490, u491, u492, u493, u494, u495, u496, u497, u498, u499, u500, u501, u502, u503, u504, u505, u506, u507, u508, u509, u510, u511, u512, u513, u514, u515, u516, u517, u518, u519, u520, u521, u522, u523, u524, u525, u526, u527, u528, u529, u530, u531, u532, u533, u534, u535, u536, u537, u538, u539, u540, u541, u542, u543, u544, u545, u546, u547, u548, u549, u550, u551], []⟩ W := by
  conv => arg 2; whnf
  refine wp_seq_k (fun K hK => ?_)
  have HK := hide (show ∀ a w', Code.wp Try.prog (tailN 16 bodyRB) (bodyPost Try.prog Try.f3 (fun e w' => e = .returned (.bool true) ∧ Below w.heap.size w w')) a w' → K a w' from hK)
  clear hK
  cases h5 : rgood zs
  · go_wp2_with fail
    exact HK.out _ _ (RzD w W A' n' c' (hide ((hYm.out.keep fun g hg => ((Below.refl W.heap.size W)).block g hg).more ((Below.refl W.heap.size W)).size)) hn' (hide (hB.out.trans (((Below.refl W.heap.size W)).mono hB.out.size))) _ _ _ _ _ _ _ _ _ _ _ _ _ _ _ _ _ _ _ _ _ _ _ _ _ _ _ _ _ _ _ _ _ _ _ _ _ _ _ _ _ _ _ _ _ _ _ _ _ _ _ _ _ _ _ _ _ _ _ _ _ _ _ _ _ _ _ _ _ _ _ _ _ _ _ _ _ _ _ _ _ _ _ _ _ _ _ _ _ _ _ _ _ _ _ _ _ _ _ _ _ _ _ _ _ _ _ _ _ _ _ _ _ _ _ _ _ _ _ _ _ _ _ _ _ _ _ _ _ _ _ _ _ _ _ _ _ _ _ _ _ _ _ _ _ _ _ _ _ _ _ _ _ _ _ _ _ _ _ _ _ _ _ _ _ _ _ _ _ _ _ _ _ _ _ _ _ _ _ _ _ _ _ _ _ _ _ _ _ _ _ _ _ _ _ _ _ _ _ _ _ _ _ _ _ _ _ _ _ _ _ _ _ _ _ _ _ _ _ _ _ _ _ _ _ _ _ _ _ _ _ _ _ _ _ _ _ _ _ _ _ _ _ _ _ _ _ _ _ _ _ _ _ _ _ _ _ _ _ _ _ _ _ _ _ _ _ _ _ _ _ _ _ _ _ _ _ _ _ _ _ _ _ _ _ _ _ _ _ _ _ _ _ _ _ _ _ _ _ _ _ _ _ _ _ _ _ _ _ _ _ _ _ _ _ _ _ _ _ _ _ _ _ _ _ _ _ _ _ _ _ _ _ _ _ _ _ _ _ _ _ _ _ _ _ _ _ _ _ _ _ _ _ _ _ _ _ _ _ _ _ _ _ _ _ _ _ _ _ _ _ _ _ _ _ _ _ _ _ _ _ _ _ _ _ _ _ _ _ _ _ _ _ _ _ _ _ _ _ _ _ _ _ _ _ _ _ _ _ _ _ _ _ _ _ _ _ _ _ _ _ _ _ _ _ _ _ _ _ _ _ _ _ _ _ _ _ _ _ _ _ _ _ _ _ _ _ _ _ _ _ _ _ _ _ _ _ _ _ _ _ _ _ _ _ _ _ _ _ _ _ _ _ _ _ _ _ _ _ _ _ _ _ _ _ _ _ _ _ _ _ _ _ _ _ _ _ _ _ _ _ _ _ _ _ _ _ _ _ _ _ _ _ _ _ _ _ _ _ _ _ _ _ _ _ _ _ _ _ _ _ _ _ _ _ _ _ _ _ _ _ _ _ _ _ _ _ _ _ _ _ )
  · obtain ⟨f1, f2, f3, f4, f5, f6, f7, f8⟩ := mir_all h5
    have hl10 : zs.length ≤ 17592186044416 := by omega
    have hml : (rmirR zs).length ≤ 17592186044416 := by omega
    have hz1 : (0 : Nat) < zs.length := by omega
    have HM := hide (MirrorRing_any Am (rmirR zs).length cm W.heap.size (rmirR zs) W hIAm.out (Nat.le_refl _) hml)
    rw [f1, f2] at HM
    have HP1 := hide (fun W' (h : Ints W' W'.heap.size Ag zs.length zs) => PeriodOfRing_any Ag zs.length cg zs W' h hl10)
    have HP2 := hide (fun W' (h : Ints W' W'.heap.size Am (rmirR zs).length (rmirR zs)) => PeriodOfRing_any Am (rmirR zs).length cm (rmirR zs) W' h hml)
    have HL1 := hide (fun W' (h : Ints W' W'.heap.size Ag zs.length zs) => LeadOfRing_any Ag zs.length cg zs W' h hl10)
    have HL2 := hide (fun W' (h : Ints W' W'.heap.size Am (rmirR zs).length (rmirR zs)) => LeadOfRing_any Am (rmirR zs).length cm (rmirR zs) W' h hml)
    rw [h5] at HP1 HL1
    rw [f1] at HP2 HL2
    have HX1 := hide (fun W' B (h : Ints W' B Ax (rstepR zs).length (rstepR zs)) => kMost_any Ax (rstepR zs).length cx B (rstepR zs) W' h (by omega) (by omega))
    have HX2 := hide (fun W' B (h : Ints W' B Ag zs.length zs) => kMost_any Ag zs.length cg B zs W' h (by omega) hz1)
    have hle : ¬ mostL zs < mostL (rstepR zs) := by omega
    have hlx : (((rstepR zs).length : Int) != (zs.length : Int)) = false := by simp; omega
    change Hid (∀ W' B, Ints W' B Ax (rstepR zs).length (rstepR zs) → Calls _ _ _ W' fun e w' => e = .returned (.int .i64 (mostL (rstepR zs))) ∧ W' = w') at HX1
    change Hid (∀ W' B, Ints W' B Ag zs.length zs → Calls _ _ _ W' fun e w' => e = .returned (.int .i64 (mostL zs)) ∧ W' = w') at HX2
    generalize mostL (rstepR zs) = m1 at *
    generalize mostL zs = m2 at *
    generalize rmirR zs = ms at *
    generalize rstepR zs = xs at *
    by_cases hp1 : perR zs = 1
    · obtain ⟨g1, g2⟩ := f3 hp1
      rw [hp1] at HP1
      rw [g1] at HP2
      rw [g2] at HL2
      have hll : (leadR zs != leadR zs) = false := by simp
      generalize leadR zs = lz at *
      clear f1 f2 f3 f4 f5 f6 f7 f8 g1 g2 hp1 h5
      go_wp2_with fail
      refine (HM.out).mono ?_; rintro e w1 ⟨At, ct, rfl, hct, hctm, hO, hb⟩
      have B1 := hide hb
      replace hIAg := hide ((hIAg.out.below hb (Nat.le_refl _)).more (hb).size)
      replace hIAm := hide ((hIAm.out.below hb (Nat.le_refl _)).more (hb).size)
      replace hIAx := hide ((hIAx.out.below hb (Nat.le_refl _)).more (hb).size)
      have hIAt := hide hO.ints
      clear hO hb
      go_wp2_with fail
      refine (HP1.out _ hIAg.out).mono ?_; rintro e w2 ⟨rfl, hb⟩
      have B2 := hide (below_next B1.out hb)
      replace hIAg := hide ((hIAg.out.below hb (Nat.le_refl _)).more (hb).size)
      replace hIAm := hide ((hIAm.out.below hb (Nat.le_refl _)).more (hb).size)
      replace hIAx := hide ((hIAx.out.below hb (Nat.le_refl _)).more (hb).size)
      replace hIAt := hide ((hIAt.out.below hb (Nat.le_refl _)).more (hb).size)
      clear B1
      clear hb
      go_wp2_with fail
      refine (HP2.out _ hIAm.out).mono ?_; rintro e w3 ⟨rfl, hb⟩
      have B3 := hide (below_next B2.out hb)
      replace hIAg := hide ((hIAg.out.below hb (Nat.le_refl _)).more (hb).size)
      replace hIAm := hide ((hIAm.out.below hb (Nat.le_refl _)).more (hb).size)
      replace hIAx := hide ((hIAx.out.below hb (Nat.le_refl _)).more (hb).size)
      replace hIAt := hide ((hIAt.out.below hb (Nat.le_refl _)).more (hb).size)
      clear B2
      clear hb
      go_wp2_with fail
      refine (HL1.out _ hIAg.out).mono ?_; rintro e w4 ⟨rfl, hb⟩
      have B4 := hide (below_next B3.out hb)
      replace hIAg := hide ((hIAg.out.below hb (Nat.le_refl _)).more (hb).size)
      replace hIAm := hide ((hIAm.out.below hb (Nat.le_refl _)).more (hb).size)
      replace hIAx := hide ((hIAx.out.below hb (Nat.le_refl _)).more (hb).size)
      replace hIAt := hide ((hIAt.out.below hb (Nat.le_refl _)).more (hb).size)
      clear B3
      clear hb
      go_wp2_with fail
      refine (HL2.out _ hIAm.out).mono ?_; rintro e w5 ⟨rfl, hb⟩
      have B5 := hide (below_next B4.out hb)
      replace hIAg := hide ((hIAg.out.below hb (Nat.le_refl _)).more (hb).size)
      replace hIAm := hide ((hIAm.out.below hb (Nat.le_refl _)).more (hb).size)
      replace hIAx := hide ((hIAx.out.below hb (Nat.le_refl _)).more (hb).size)
      replace hIAt := hide ((hIAt.out.below hb (Nat.le_refl _)).more (hb).size)
      clear B4
      clear hb
      go_wp2_with fail
      refine (kSame_same _ _ _ _ _ _ _ _ _ hIAt.out hIAg.out (Nat.le_refl _) (Nat.le_refl _) hl10).mono ?_; rintro e w6 ⟨rfl, hb⟩
      have B6 := hide (below_next B5.out hb)
      replace hIAg := hide ((hIAg.out.below hb (Nat.le_refl _)).more (hb).size)
      replace hIAm := hide ((hIAm.out.below hb (Nat.le_refl _)).more (hb).size)
      replace hIAx := hide ((hIAx.out.below hb (Nat.le_refl _)).more (hb).size)
      replace hIAt := hide ((hIAt.out.below hb (Nat.le_refl _)).more (hb).size)
      clear B5
      clear hb
      go_wp2_with fail
      refine (HX1.out _ _ hIAx.out).mono ?_; rintro e _ ⟨rfl, rfl⟩
      go_wp2_with fail
      refine (HX2.out _ _ hIAg.out).mono ?_; rintro e _ ⟨rfl, rfl⟩
      go_wp2_with fail
      exact HK.out _ _ (RzD w _ A' n' c' (hide ((hYm.out.keep fun g hg => (B6.out).block g hg).more (B6.out).size)) hn' (hide (hB.out.trans ((B6.out).mono hB.out.size))) _ _ _ _ _ _ _ _ _ _ _ _ _ _ _ _ _ _ _ _ _ _ _ _ _ _ _ _ _ _ _ _ _ _ _ _ _ _ _ _ _ _ _ _ _ _ _ _ _ _ _ _ _ _ _ _ _ _ _ _ _ _ _ _ _ _ _ _ _ _ _ _ _ _ _ _ _ _ _ _ _ _ _ _ _ _ _ _ _ _ _ _ _ _ _ _ _ _ _ _ _ _ _ _ _ _ _ _ _ _ _ _ _ _ _ _ _ _ _ _ _ _ _ _ _ _ _ _ _ _ _ _ _ _ _ _ _ _ _ _ _ _ _ _ _ _ _ _ _ _ _ _ _ _ _ _ _ _ _ _ _ _ _ _ _ _ _ _ _ _ _ _ _ _ _ _ _ _ _ _ _ _ _ _ _ _ _ _ _ _ _ _ _ _ _ _ _ _ _ _ _ _ _ _ _ _ _ _ _ _ _ _ _ _ _ _ _ _ _ _ _ _ _ _ _ _ _ _ _ _ _ _ _ _ _ _ _ _ _ _ _ _ _ _ _ _ _ _ _ _ _ _ _ _ _ _ _ _ _ _ _ _ _ _ _ _ _ _ _ _ _ _ _ _ _ _ _ _ _ _ _ _ _ _ _ _ _ _ _ _ _ _ _ _ _ _ _ _ _ _ _ _ _ _ _ _ _ _ _ _ _ _ _ _ _ _ _ _ _ _ _ _ _ _ _ _ _ _ _ _ _ _ _ _ _ _ _ _ _ _ _ _ _ _ _ _ _ _ _ _ _ _ _ _ _ _ _ _ _ _ _ _ _ _ _ _ _ _ _ _ _ _ _ _ _ _ _ _ _ _ _ _ _ _ _ _ _ _ _ _ _ _ _ _ _ _ _ _ _ _ _ _ _ _ _ _ _ _ _ _ _ _ _ _ _ _ _ _ _ _ _ _ _ _ _ _ _ _ _ _ _ _ _ _ _ _ _ _ _ _ _ _ _ _ _ _ _ _ _ _ _ _ _ _ _ _ _ _ _ _ _ _ _ _ _ _ _ _ _ _ _ _ _ _ _ _ _ _ _ _ _ _ _ _ _ _ _ _ _ _ _ _ _ _ _ _ _ _ _ _ _ _ _ _ _ _ _ _ _ _ _ _ _ _ _ _ _ _ _ _ _ _ _ _ _ _ _ _ _ _ _ _ _ _ _ _ _ _ _ _ _ _ _ _ _ _ _ _ _ _ _ )
    · have hpe : (perR zs == 1) = false := by simpa using hp1
      generalize perR zs = p1 at *
      generalize perR ms = p2 at *
      generalize leadR zs = lz at *
      generalize leadR ms = lm at *
      clear f1 f2 f3 f4 f5 f6 f7 f8 h5
      go_wp2_with fail
      refine (HM.out).mono ?_; rintro e w1 ⟨At, ct, rfl, hct, hctm, hO, hb⟩
      have B1 := hide hb
      replace hIAg := hide ((hIAg.out.below hb (Nat.le_refl _)).more (hb).size)
      replace hIAm := hide ((hIAm.out.below hb (Nat.le_refl _)).more (hb).size)
      replace hIAx := hide ((hIAx.out.below hb (Nat.le_refl _)).more (hb).size)
      have hIAt := hide hO.ints
      clear hO hb
      go_wp2_with fail
      refine (HP1.out _ hIAg.out).mono ?_; rintro e w2 ⟨rfl, hb⟩
      have B2 := hide (below_next B1.out hb)
      replace hIAg := hide ((hIAg.out.below hb (Nat.le_refl _)).more (hb).size)
      replace hIAm := hide ((hIAm.out.below hb (Nat.le_refl _)).more (hb).size)
      replace hIAx := hide ((hIAx.out.below hb (Nat.le_refl _)).more (hb).size)
      replace hIAt := hide ((hIAt.out.below hb (Nat.le_refl _)).more (hb).size)
      clear B1
      clear hb
      go_wp2_with fail
      refine (HP2.out _ hIAm.out).mono ?_; rintro e w3 ⟨rfl, hb⟩
      have B3 := hide (below_next B2.out hb)
      replace hIAg := hide ((hIAg.out.below hb (Nat.le_refl _)).more (hb).size)
      replace hIAm := hide ((hIAm.out.below hb (Nat.le_refl _)).more (hb).size)
      replace hIAx := hide ((hIAx.out.below hb (Nat.le_refl _)).more (hb).size)
      replace hIAt := hide ((hIAt.out.below hb (Nat.le_refl _)).more (hb).size)
      clear B2
      clear hb
      go_wp2_with fail
      refine (HL1.out _ hIAg.out).mono ?_; rintro e w4 ⟨rfl, hb⟩
      have B4 := hide (below_next B3.out hb)
      replace hIAg := hide ((hIAg.out.below hb (Nat.le_refl _)).more (hb).size)
      replace hIAm := hide ((hIAm.out.below hb (Nat.le_refl _)).more (hb).size)
      replace hIAx := hide ((hIAx.out.below hb (Nat.le_refl _)).more (hb).size)
      replace hIAt := hide ((hIAt.out.below hb (Nat.le_refl _)).more (hb).size)
      clear B3
      clear hb
      go_wp2_with fail
      refine (HL2.out _ hIAm.out).mono ?_; rintro e w5 ⟨rfl, hb⟩
      have B5 := hide (below_next B4.out hb)
      replace hIAg := hide ((hIAg.out.below hb (Nat.le_refl _)).more (hb).size)
      replace hIAm := hide ((hIAm.out.below hb (Nat.le_refl _)).more (hb).size)
      replace hIAx := hide ((hIAx.out.below hb (Nat.le_refl _)).more (hb).size)
      replace hIAt := hide ((hIAt.out.below hb (Nat.le_refl _)).more (hb).size)
      clear B4
      clear hb
      go_wp2_with fail
      refine (kSame_same _ _ _ _ _ _ _ _ _ hIAt.out hIAg.out (Nat.le_refl _) (Nat.le_refl _) hl10).mono ?_; rintro e w6 ⟨rfl, hb⟩
      have B6 := hide (below_next B5.out hb)
      replace hIAg := hide ((hIAg.out.below hb (Nat.le_refl _)).more (hb).size)
      replace hIAm := hide ((hIAm.out.below hb (Nat.le_refl _)).more (hb).size)
      replace hIAx := hide ((hIAx.out.below hb (Nat.le_refl _)).more (hb).size)
      replace hIAt := hide ((hIAt.out.below hb (Nat.le_refl _)).more (hb).size)
      clear B5
      clear hb
      go_wp2_with fail
      refine (HX1.out _ _ hIAx.out).mono ?_; rintro e _ ⟨rfl, rfl⟩
      go_wp2_with fail
      refine (HX2.out _ _ hIAg.out).mono ?_; rintro e _ ⟨rfl, rfl⟩
      go_wp2_with fail
      exact HK.out _ _ (RzD w _ A' n' c' (hide ((hYm.out.keep fun g hg => (B6.out).block g hg).more (B6.out).size)) hn' (hide (hB.out.trans ((B6.out).mono hB.out.size))) _ _ _ _ _ _ _ _ _ _ _ _ _ _ _ _ _ _ _ _ _ _ _ _ _ _ _ _ _ _ _ _ _ _ _ _ _ _ _ _ _ _ _ _ _ _ _ _ _ _ _ _ _ _ _ _ _ _ _ _ _ _ _ _ _ _ _ _ _ _ _ _ _ _ _ _ _ _ _ _ _ _ _ _ _ _ _ _ _ _ _ _ _ _ _ _ _ _ _ _ _ _ _ _ _ _ _ _ _ _ _ _ _ _ _ _ _ _ _ _ _ _ _ _ _ _ _ _ _ _ _ _ _ _ _ _ _ _ _ _ _ _ _ _ _ _ _ _ _ _ _ _ _ _ _ _ _ _ _ _ _ _ _ _ _ _ _ _ _ _ _ _ _ _ _ _ _ _ _ _ _ _ _ _ _ _ _ _ _ _ _ _ _ _ _ _ _ _ _ _ _ _ _ _ _ _ _ _ _ _ _ _ _ _ _ _ _ _ _ _ _ _ _ _ _ _ _ _ _ _ _ _ _ _ _ _ _ _ _ _ _ _ _ _ _ _ _ _ _ _ _ _ _ _ _ _ _ _ _ _ _ _ _ _ _ _ _ _ _ _ _ _ _ _ _ _ _ _ _ _ _ _ _ _ _ _ _ _ _ _ _ _ _ _ _ _ _ _ _ _ _ _ _ _ _ _ _ _ _ _ _ _ _ _ _ _ _ _ _ _ _ _ _ _ _ _ _ _ _ _ _ _ _ _ _ _ _ _ _ _ _ _ _ _ _ _ _ _ _ _ _ _ _ _ _ _ _ _ _ _ _ _ _ _ _ _ _ _ _ _ _ _ _ _ _ _ _ _ _ _ _ _ _ _ _ _ _ _ _ _ _ _ _ _ _ _ _ _ _ _ _ _ _ _ _ _ _ _ _ _ _ _ _ _ _ _ _ _ _ _ _ _ _ _ _ _ _ _ _ _ _ _ _ _ _ _ _ _ _ _ _ _ _ _ _ _ _ _ _ _ _ _ _ _ _ _ _ _ _ _ _ _ _ _ _ _ _ _ _ _ _ _ _ _ _ _ _ _ _ _ _ _ _ _ _ _ _ _ _ _ _ _ _ _ _ _ _ _ _ _ _ _ _ _ _ _ _ _ _ _ _ _ _ _ _ _ _ _ _ _ _ _ _ _ _ _ _ _ _ _ _ _ _ _ _ _ _ _ _ _ _ _ _ _ _ _ _ _ _ _ _ )
end Go.Proofs.Ytcbcgapnoompbaa
