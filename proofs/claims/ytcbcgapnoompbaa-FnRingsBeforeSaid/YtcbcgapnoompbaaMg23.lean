import Derived.Test.YtcbcgapnoompbaaMg02
import Derived.Test.YtcbcgapnoompbaaMg03
import Derived.Test.YtcbcgapnoompbaaMg15
import Derived.Test.YtcbcgapnoompbaaMg17
import Derived.Test.YtcbcgapnoompbaaMg22

/-
  FnRingsBefore: the last part.
-/
namespace Go.Proofs.Ytcbcgapnoompbaa
open Go.RowKit Go.Deep
set_option linter.unusedVariables false

set_option maxRecDepth 100000 in
set_option maxHeartbeats 100000000 in
theorem RzG (w W : World) (tz : List Int) (at_ : Int) (h20 : tz.length ≤ 20) (At : Option Addr) (ct : Nat) (hIAt : Hid (Ints W W.heap.size At tz.length tz)) (hct : tz.length ≤ ct) (hctm : ct ≤ maxLen) (Ad : Option Addr) (cd : Nat) (hIAd : Hid (Ints W W.heap.size Ad (rturnR tz at_).length (rturnR tz at_))) (hcd : (rturnR tz at_).length ≤ cd) (hcdm : cd ≤ maxLen) (hB : Hid (Below w.heap.size w W)) (u0 u1 u2 u3 u4 u5 u6 u7 u8 u9 u10 u11 u12 u13 u14 u15 u16 u17 u18 u19 u20 u21 u22 u23 u24 u25 u26 u27 u28 u29 u30 u31 u32 u33 u34 u35 u36 u37 u38 u39 u40 u41 u42 u43 u44 u45 u46 u47 u48 u49 u50 u51 u56 u57 u58 u59 u60 u61 u62 u63 u64 u65 u66 u67 u68 u69 u70 u71 u72 u73 u74 u75 u76 u77 u78 u79 u80 u81 u82 u83 u84 u85 u86 u87 u88 u89 u90 u91 u92 u93 u94 u95 u96 u97 u98 u99 u100 u101 u102 u103 u104 u105 u106 u107 u108 u109 u110 u111 u112 u113 u114 u115 u116 u117 u118 u119 u120 u121 u122 u123 u124 u125 u126 u127 u128 u129 u130 u131 u132 u133 u134 u135 u136 u137 u138 u139 u140 u141 u142 u143 u144 u145 u146 u147 u148 u149 u150 u151 u152 u153 u154 u155 u156 u157 u158 u159 u160 u161 u162 u163 u164 u165 u166 u167 u168 u169 u170 u171 u172 u173 u174 u175 u176 u177 u178 u179 u180 u181 u182 u183 u184 u185 u186 u187 u188 u189 u190 u191 u192 u193 u194 u195 u196 u197 u198 u199 u200 u201 u202 u203 u204 u205 u206 u207 u208 u209 u210 u211 u212 u213 u214 u215 u216 u217 u218 u219 u220 u221 u222 u223 u224 u225 u226 u227 u228 u229 u230 u231 u232 u233 u234 u235 u236 u237 u238 u239 u240 u241 u242 u243 u244 u245 u246 u247 u248 u249 u250 u251 u252 u253 u254 u255 u256 u257 u258 u259 u260 u261 u262 u263 u264 u265 u266 u267 u268 u269 u270 u271 u272 u273 u274 u275 u276 u277 u278 u279 u280 u281 u282 u283 u284 u285 u286 u287 u288 u289 u290 u291 u292 u293 u294 u295 u296 u297 u298 u299 u300 u301 u302 u303 u304 u305 u306 u307 u308 u309 u310 u311 u312 u313 u314 u315 u316 u317 u318 u319 u320 u321 u322 u323 u324 u325 u326 u327 u328 u329 u330 u331 u332 u333 u334 u335 u336 u337 u338 u339 u340 u341 u342 u343 u344 u345 u346 u347 u348 u349 u350 u351 u352 u353 u354 u355 u356 u357 u358 u359 u360 u361 u362 u363 u364 u365 u366 u367 u368 u369 u370 u371 u372 u373 u374 u375 u376 u377 u378 u379 u380 u381 u382 u383 u384 u385 u386 u387 u388 u389 u390 u391 u392 u393 u394 u395 u396 u397 u398 u399 u400 u401 u402 u403 u404 u405 u406 u407 u408 u409 u410 u411 u412 u413 u414 u415 u416 u417 u418 u419 u420 u421 u422 u423 u424 u425 u426 u427 u428 u429 u430 u431 u432 u433 u434 u435 u436 u437 u438 u439 u440 u441 u442 u443 u444 u445 u446 u447 u448 u449 u450 u451 u452 u453 u454 u455 u456 u457 u458 u459 u460 u461 u462 u463 u464 u465 u466 u467 u468 u469 u470 u471 u472 u473 u474 u475 u476 u477 u478 u479 u480 u481 u482 u483 u484 u485 u486 u487 u488 u489 u490 u491 u492 u493 u494 u495 u496 u497 u498 u499 u500 u501 u502 u503 u504 u505 u506 u507 u508 u509 u510 u511 u512 u513 u514 u515 u516 u517 u518 u519 u520 u521 u522 u523 u524 u525 u526 u527 u528 u529 u530 u531 u532 u533 u534 u535 u536 u537 u538 u539 u540 u541 u542 u543 u544 u545 u546 u547 u548 u549 u550 u551 : Value) :
    Code.wp Try.prog (tailN 27 bodyRB) (bodyPost Try.prog Try.f3 (fun e w' => e = .returned (.bool true) ∧ Below w.heap.size w w')) ⟨#[u0, u1, u2, u3, u4, u5, u6, u7, u8, u9, u10, u11, u12, u13, u14, u15, u16, u17, u18, u19, u20, u21, u22, u23, u24, u25, u26, u27, u28, u29, u30, u31, u32, u33, u34, u35, u36, u37, u38, u39, u40, u41, u42, u43, u44, u45, u46, u47, u48, u49, u50, u51, Value.slice At tz.length ct, Value.int .i64 at_, Value.slice Ad (rturnR tz at_).length cd, Value.bool (rturnOk tz at_), u56, u57, u58, u59, u60, u61, u62, u63, u64, u65, u66, u67, u68, u69, u70, u71, u72, u73, u74, u75, u76, u77, u78, u79, u80, u81, u82, u83, u84, u85, u86, u87, u88, u89, u90, u91, u92, u93, u94, u95, u96, u97, u98, u99, u100, u101, u102, u103, u104, u105, u106, u107, u108, u109, u110, u111, u112, u113, u114, u115, u116, u117, u118, u119, u120, u121, u122, u123, u124, u125, u126, u127, u128, u129, u130, u131, u132, u133, u134, u135, u136, u137, u138, u139, u140, u141, u142, u143, u144, u145, u146, u147, u148, u149, u150, u151, u152, u153, u154, u155, u156, u157, u158, u159, u160, u161, u162, u163, u164, u165, u166, u167, u168, u169, u170, u171, u172, u173, u174, u175, u176, u177, u178, u179, u180, u181, u182, u183, u184, u185, u186, u187, u188, u189, u190, u191, u192, u193, u194, u195, u196, u197, u198, u199, u200, u201, u202, u203, u204, u205, u206, u207, u208, u209, u210, u211, u212, u213, u214, u215, u216, u217, u218, u219, u220, u221, u222, u223, u224, u225, u226, u227, u228, u229, u230, u231, u232, u233, u234, u235, u236, u237, u238, u239, u240, u241, u242, u243, u244, u245, u246, u247, u248, u249, u250, u251, u252, u253, u254, u255, u256, u257, u258, u259, u260, u261, u262, u263, u264, u265, u266, u267, u268, u269, u270, u271, u272, u273, u274, u275, u276, u277, u278, u279, u280, u281, u282, u283, u284, u285, u286, u287, u288, u289, u290, u291, u292, u293, u294, u295, u296, u297, u298, u299, u300, u301, u302, u303, u304, u305, u306, u307, u308, u309, u310, u311, u312, u313, u314, u315, u316, u317, u318, u319, u320, u321, u322, u323, u324, u325, u326, u327, u328, u329, u330, u331, u332, u333, u334, u335, u336, u337, u338, u339, u340, u341, u342, u343, u344, u345, u346, u347, u348, u349, u350, u351, u352, u353, u354, u355, u356, u357, u358, u359, u360, u361, u362, u363, u364, u365, u366, u367, u368, u369, u370, u371, u372, u373, u374, u375, u376, u377, u378, u379, u380, u381, u382, u383, u384, u385, u386, u387, u388, u389, u390, u391, u392, u393, u394, u395, u396, u397, u398, u399, u400, u401, u402, u403, u404, u405, u406, u407, u408, u409, u410, u411, u412, u413, u414, u415, u416, u417, u418, u419, u420, u421, u422, u423, u424, u425, u426, u427, u428, u429, u430, u431, u432, u433, u434, u435, u436, u437, u438, u439, u440, u441, u442, u443, u444, u445, u446, u447, u448, u449, u450, u451, u452, u453, u454, u455, u456, u457, u458, u459, u460, u461, u462, u463, u464, u465, u466, u467, u468, u469, u470, u471, u472, u473, u474, u475, u476, u477, u478, u479, u480, u481, u482, u483, u484, u485, u486, u487, u488, u489, u490, u491, u492, u493, u494, u495, u496, u497, u498, u499, u500, u501, u502, u503, u504, u505, u506, u507, u508, u509, u510, u511, u512, u513, u514, u515, u516, u517, u518, u519, u520, u521, u522, u523, u524, u525, u526, u527, u528, u529, u530, u531, u532, u533, u534, u535, u536, u537, u538, u539, u540, u541, u542, u543, u544, u545, u546, u547, u548, u549, u550, u551], []⟩ W := by
  conv => arg 2; whnf
  cases h13 : rturnOk tz at_
  · go_wp2_with fail
    go_ret
    exact ⟨rfl, hB.out⟩
  · obtain ⟨f1, f2, f3, f4, f5, f6, f7⟩ := turned_all h13
    have hdl : (rturnR tz at_).length ≤ 17592186044416 := by omega
    have htl : tz.length ≤ 17592186044416 := by omega
    have hyl : (rstepR tz).length ≤ 17592186044416 := by omega
    have H1 := hide (RingStep_any Ad (rturnR tz at_).length cd W.heap.size (rturnR tz at_) W hIAd.out (Nat.le_refl _) hdl hcd hcdm)
    have H2 := hide (fun W' (h : Below W.heap.size W W') => RingStep_any At tz.length ct W.heap.size tz W' (hIAt.out.below h (Nat.le_refl _)) h.size htl hct hctm)
    have H3 := hide (fun A c W' (h : Ints W' W'.heap.size A (rstepR tz).length (rstepR tz)) (h1 : (rstepR tz).length ≤ c) (h2 : c ≤ maxLen) => TurnRing_any A (rstepR tz).length c W'.heap.size (rstepR tz) at_ W' h (Nat.le_refl _) hyl h1 h2)
    have H4 := hide (fun W' (h : Below W.heap.size W W') => PeriodOfRing_any Ad (rturnR tz at_).length cd (rturnR tz at_) W' ((hIAd.out.below h (Nat.le_refl _)).more h.size) hdl)
    have H5 := hide (fun W' (h : Below W.heap.size W W') => PeriodOfRing_any At tz.length ct tz W' ((hIAt.out.below h (Nat.le_refl _)).more h.size) htl)
    rw [f2] at H1 H4
    rw [f1] at H2 H5
    rw [f3, f4] at H3
    rw [f5] at H4
    have hpp : (perR tz == perR tz) = true := by simp
    have hxl : (rstepR (rturnR tz at_)).length ≤ 17592186044416 := by rw [rstepR_yes f2, rstep_length]; exact hdl
    have hs : Hid True := hide trivial
    generalize rturnR tz at_ = td at *
    generalize perR tz = p at *
    generalize rstepR td = xs at *
    generalize rstepR tz = ys at *
    clear f1 f2 f3 f4 f5 f6 f7 hIAt hIAd
    go_wp2_with fail
    refine H1.out.mono ?_; rintro e w1 ⟨A1, c1, rfl, _, _, hO1, hb1⟩
    have hI1 := hide hO1.ints
    have B1 := hide hb1
    clear hO1 hb1 H1
    go_wp2_with fail
    refine (H2.out _ B1.out).mono ?_; rintro e w2 ⟨A2, c2, rfl, hc2, hc2m, hO2, hb2⟩
    have hI2 := hide hO2.ints
    have hI1 := hide ((hI1.out.below hb2 (Nat.le_refl _)).more hb2.size)
    have B2 := hide (below_next B1.out hb2)
    clear hO2 hb2 H2 B1
    go_wp2_with fail
    refine (H3.out _ _ _ hI2.out hc2 hc2m).mono ?_; rintro e w3 ⟨A3, c3, rfl, _, _, hO3, hb3⟩
    have hI3 := hide hO3.ints
    have hI1 := hide ((hI1.out.below hb3 (Nat.le_refl _)).more hb3.size)
    have B3 := hide (below_next B2.out hb3)
    clear hO3 hb3 H3 B2 hI2
    go_wp2_with fail
    refine (H4.out _ B3.out).mono ?_; rintro e w4 ⟨rfl, hb4⟩
    have hI3 := hide ((hI3.out.below hb4 (Nat.le_refl _)).more hb4.size)
    have hI1 := hide ((hI1.out.below hb4 (Nat.le_refl _)).more hb4.size)
    have B4 := hide (below_next B3.out hb4)
    clear hb4 H4 B3
    go_wp2_with fail
    refine (H5.out _ B4.out).mono ?_; rintro e w5 ⟨rfl, hb5⟩
    have hI3 := hide ((hI3.out.below hb5 (Nat.le_refl _)).more hb5.size)
    have hI1 := hide ((hI1.out.below hb5 (Nat.le_refl _)).more hb5.size)
    have B5 := hide (below_next B4.out hb5)
    clear hb5 H5 B4
    go_wp2_with fail
    refine (kSame_same _ _ _ _ _ _ _ _ _ hI1.out hI3.out (Nat.le_refl _) (Nat.le_refl _) hxl).mono ?_; rintro e w6 ⟨rfl, hb6⟩
    have B6 := hide (below_next B5.out hb6)
    clear hb6 B5
    go_wp2_with fail
    go_ret
    exact ⟨rfl, hB.out.trans (B6.out.mono hB.out.size)⟩
end Go.Proofs.Ytcbcgapnoompbaa

/-
  FnRingsBefore: the last but one.
-/
namespace Go.Proofs.Ytcbcgapnoompbaa
open Go.RowKit Go.Deep
set_option linter.unusedVariables false

set_option maxRecDepth 100000 in
set_option maxHeartbeats 100000000 in
theorem RzF (w W : World) (tz rz : List Int) (at_ by_ : Int) (h20 : tz.length ≤ 20) (h20r : rz.length ≤ 20) (At : Option Addr) (ct : Nat) (hIAt : Hid (Ints W W.heap.size At tz.length tz)) (hct : tz.length ≤ ct) (hctm : ct ≤ maxLen) (Ad : Option Addr) (cd : Nat) (hIAd : Hid (Ints W W.heap.size Ad (rturnR tz at_).length (rturnR tz at_))) (hcd : (rturnR tz at_).length ≤ cd) (hcdm : cd ≤ maxLen) (Ar : Option Addr) (cr : Nat) (hIAr : Hid (Ints W W.heap.size Ar rz.length rz)) (hcr : rz.length ≤ cr) (hcrm : cr ≤ maxLen) (As : Option Addr) (cs : Nat) (hIAs : Hid (Ints W W.heap.size As (scaleR rz by_).length (scaleR rz by_))) (hcs : (scaleR rz by_).length ≤ cs) (hcsm : cs ≤ maxLen) (hB : Hid (Below w.heap.size w W)) (u0 u1 u2 u3 u4 u5 u6 u7 u8 u9 u10 u11 u12 u13 u14 u15 u16 u17 u18 u19 u20 u21 u22 u23 u24 u25 u26 u27 u28 u29 u30 u31 u32 u33 u34 u35 u36 u37 u38 u39 u40 u41 u44 u45 u46 u47 u50 u51 u56 u57 u58 u59 u60 u61 u62 u63 u64 u65 u66 u67 u68 u69 u70 u71 u72 u73 u74 u75 u76 u77 u78 u79 u80 u81 u82 u83 u84 u85 u86 u87 u88 u89 u90 u91 u92 u93 u94 u95 u96 u97 u98 u99 u100 u101 u102 u103 u104 u105 u106 u107 u108 u109 u110 u111 u112 u113 u114 u115 u116 u117 u118 u119 u120 u121 u122 u123 u124 u125 u126 u127 u128 u129 u130 u131 u132 u133 u134 u135 u136 u137 u138 u139 u140 u141 u142 u143 u144 u145 u146 u147 u148 u149 u150 u151 u152 u153 u154 u155 u156 u157 u158 u159 u160 u161 u162 u163 u164 u165 u166 u167 u168 u169 u170 u171 u172 u173 u174 u175 u176 u177 u178 u179 u180 u181 u182 u183 u184 u185 u186 u187 u188 u189 u190 u191 u192 u193 u194 u195 u196 u197 u198 u199 u200 u201 u202 u203 u204 u205 u206 u207 u208 u209 u210 u211 u212 u213 u214 u215 u216 u217 u218 u219 u220 u221 u222 u223 u224 u225 u226 u227 u228 u229 u230 u231 u232 u233 u234 u235 u236 u237 u238 u239 u240 u241 u242 u243 u244 u245 u246 u247 u248 u249 u250 u251 u252 u253 u254 u255 u256 u257 u258 u259 u260 u261 u262 u263 u264 u265 u266 u267 u268 u269 u270 u271 u272 u273 u274 u275 u276 u277 u278 u279 u280 u281 u282 u283 u284 u285 u286 u287 u288 u289 u290 u291 u292 u293 u294 u295 u296 u297 u298 u299 u300 u301 u302 u303 u304 u305 u306 u307 u308 u309 u310 u311 u312 u313 u314 u315 u316 u317 u318 u319 u320 u321 u322 u323 u324 u325 u326 u327 u328 u329 u330 u331 u332 u333 u334 u335 u336 u337 u338 u339 u340 u341 u342 u343 u344 u345 u346 u347 u348 u349 u350 u351 u352 u353 u354 u355 u356 u357 u358 u359 u360 u361 u362 u363 u364 u365 u366 u367 u368 u369 u370 u371 u372 u373 u374 u375 u376 u377 u378 u379 u380 u381 u382 u383 u384 u385 u386 u387 u388 u389 u390 u391 u392 u393 u394 u395 u396 u397 u398 u399 u400 u401 u402 u403 u404 u405 u406 u407 u408 u409 u410 u411 u412 u413 u414 u415 u416 u417 u418 u419 u420 u421 u422 u423 u424 u425 u426 u427 u428 u429 u430 u431 u432 u433 u434 u435 u436 u437 u438 u439 u440 u441 u442 u443 u444 u445 u446 u447 u448 u449 u450 u451 u452 u453 u454 u455 u456 u457 u458 u459 u460 u461 u462 u463 u464 u465 u466 u467 u468 u469 u470 u471 u472 u473 u474 u475 u476 u477 u478 u479 u480 u481 u482 u483 u484 u485 u486 u487 u488 u489 u490 u491 u492 u493 u494 u495 u496 u497 u498 u499 u500 u501 u502 u503 u504 u505 u506 u507 u508 u509 u510 u511 u512 u513 u514 u515 u516 u517 u518 u519 u520 u521 u522 u523 u524 u525 u526 u527 u528 u529 u530 u531 u532 u533 u534 u535 u536 u537 u538 u539 u540 u541 u542 u543 u544 u545 u546 u547 u548 u549 u550 u551 : Value) :
    Code.wp Try.prog (tailN 26 bodyRB) (bodyPost Try.prog Try.f3 (fun e w' => e = .returned (.bool true) ∧ Below w.heap.size w w')) ⟨#[u0, u1, u2, u3, u4, u5, u6, u7, u8, u9, u10, u11, u12, u13, u14, u15, u16, u17, u18, u19, u20, u21, u22, u23, u24, u25, u26, u27, u28, u29, u30, u31, u32, u33, u34, u35, u36, u37, u38, u39, u40, u41, Value.slice Ar rz.length cr, Value.int .i64 by_, u44, u45, u46, u47, Value.slice As (scaleR rz by_).length cs, Value.bool (scaleOk rz by_), u50, u51, Value.slice At tz.length ct, Value.int .i64 at_, Value.slice Ad (rturnR tz at_).length cd, Value.bool (rturnOk tz at_), u56, u57, u58, u59, u60, u61, u62, u63, u64, u65, u66, u67, u68, u69, u70, u71, u72, u73, u74, u75, u76, u77, u78, u79, u80, u81, u82, u83, u84, u85, u86, u87, u88, u89, u90, u91, u92, u93, u94, u95, u96, u97, u98, u99, u100, u101, u102, u103, u104, u105, u106, u107, u108, u109, u110, u111, u112, u113, u114, u115, u116, u117, u118, u119, u120, u121, u122, u123, u124, u125, u126, u127, u128, u129, u130, u131, u132, u133, u134, u135, u136, u137, u138, u139, u140, u141, u142, u143, u144, u145, u146, u147, u148, u149, u150, u151, u152, u153, u154, u155, u156, u157, u158, u159, u160, u161, u162, u163, u164, u165, u166, u167, u168, u169, u170, u171, u172, u173, u174, u175, u176, u177, u178, u179, u180, u181, u182, u183, u184, u185, u186, u187, u188, u189, u190, u191, u192, u193, u194, u195, u196, u197, u198, u199, u200, u201, u202, u203, u204, u205, u206, u207, u208, u209, u210, u211, u212, u213, u214, u215, u216, u217, u218, u219, u220, u221, u222, u223, u224, u225, u226, u227, u228, u229, u230, u231, u232, u233, u234, u235, u236, u237, u238, u239, u240, u241, u242, u243, u244, u245, u246, u247, u248, u249, u250, u251, u252, u253, u254, u255, u256, u257, u258, u259, u260, u261, u262, u263, u264, u265, u266, u267, u268, u269, u270, u271, u272, u273, u274, u275, u276, u277, u278, u279, u280, u281, u282, u283, u284, u285, u286, u287, u288, u289, u290, u291, u292, u293, u294, u295, u296, u297, u298, u299, u300, u301, u302, u303, u304, u305, u306, u307, u308, u309, u310, u311, u312, u313, u314, u315, u316, u317, u318, u319, u320, u321, u322, u323, u324, u325, u326, u327, u328, u329, u330, u331, u332, u333, u334, u335, u336, u337, u338, u339, u340, u341, u342, u343, u344, u345, u346, u347, u348, u349, u350, u351, u352, u353, u354, u355, u356, u357, u358, u359, u360, u361, u362, u363, u364, u365, u366, u367, u368, u369, u370, u371, u372, u373, u374, u375, u376, u377, u378, u379, u380, u381, u382, u383, u384, u385, u386, u387, u388, u389, u390, u391, u392, u393, u394, u395, u396, u397, u398, u399, u400, u401, u402, u403, u404, u405, u406, u407, u408, u409, u410, u411, u412, u413, u414, u415, u416, u417, u418, u419, u420, u421, u422, u423, u424, u425, u426, u427, u428, u429, u430, u431, u432, u433, u434, u435, u436, u437, u438, u439, u440, u441, u442, u443, u444, u445, u446, u447, u448, u449, u450, u451, u452, u453, u454, u455, u456, u457, u458, u459, u460, u461, u462, u463, u464, u465, u466, u467, u468, u469, u470, u471, u472, u473, u474, u475, u476, u477, u478, u479, u480, u481, u482, u483, u484, u485, u486, u487, u488, u489, u490, u491, u492, u493, u494, u495, u496, u497, u498, u499, u500, u501, u502, u503, u504, u505, u506, u507, u508, u509, u510, u511, u512, u513, u514, u515, u516, u517, u518, u519, u520, u521, u522, u523, u524, u525, u526, u527, u528, u529, u530, u531, u532, u533, u534, u535, u536, u537, u538, u539, u540, u541, u542, u543, u544, u545, u546, u547, u548, u549, u550, u551], []⟩ W := by
  conv => arg 2; whnf
  refine wp_seq_k (fun K hK => ?_)
  have HK := hide (show ∀ a w', Code.wp Try.prog (tailN 27 bodyRB) (bodyPost Try.prog Try.f3 (fun e w' => e = .returned (.bool true) ∧ Below w.heap.size w w')) a w' → K a w' from hK)
  clear hK
  cases h11 : scaleOk rz by_
  · go_wp2_with fail
    exact HK.out _ _ (RzG w W tz at_ h20 At ct (hide ((hIAt.out.below (Below.refl W.heap.size W) (Nat.le_refl _)).more ((Below.refl W.heap.size W)).size)) hct hctm Ad cd (hide ((hIAd.out.below (Below.refl W.heap.size W) (Nat.le_refl _)).more ((Below.refl W.heap.size W)).size)) hcd hcdm (hide (hB.out.trans (((Below.refl W.heap.size W)).mono hB.out.size))) _ _ _ _ _ _ _ _ _ _ _ _ _ _ _ _ _ _ _ _ _ _ _ _ _ _ _ _ _ _ _ _ _ _ _ _ _ _ _ _ _ _ _ _ _ _ _ _ _ _ _ _ _ _ _ _ _ _ _ _ _ _ _ _ _ _ _ _ _ _ _ _ _ _ _ _ _ _ _ _ _ _ _ _ _ _ _ _ _ _ _ _ _ _ _ _ _ _ _ _ _ _ _ _ _ _ _ _ _ _ _ _ _ _ _ _ _ _ _ _ _ _ _ _ _ _ _ _ _ _ _ _ _ _ _ _ _ _ _ _ _ _ _ _ _ _ _ _ _ _ _ _ _ _ _ _ _ _ _ _ _ _ _ _ _ _ _ _ _ _ _ _ _ _ _ _ _ _ _ _ _ _ _ _ _ _ _ _ _ _ _ _ _ _ _ _ _ _ _ _ _ _ _ _ _ _ _ _ _ _ _ _ _ _ _ _ _ _ _ _ _ _ _ _ _ _ _ _ _ _ _ _ _ _ _ _ _ _ _ _ _ _ _ _ _ _ _ _ _ _ _ _ _ _ _ _ _ _ _ _ _ _ _ _ _ _ _ _ _ _ _ _ _ _ _ _ _ _ _ _ _ _ _ _ _ _ _ _ _ _ _ _ _ _ _ _ _ _ _ _ _ _ _ _ _ _ _ _ _ _ _ _ _ _ _ _ _ _ _ _ _ _ _ _ _ _ _ _ _ _ _ _ _ _ _ _ _ _ _ _ _ _ _ _ _ _ _ _ _ _ _ _ _ _ _ _ _ _ _ _ _ _ _ _ _ _ _ _ _ _ _ _ _ _ _ _ _ _ _ _ _ _ _ _ _ _ _ _ _ _ _ _ _ _ _ _ _ _ _ _ _ _ _ _ _ _ _ _ _ _ _ _ _ _ _ _ _ _ _ _ _ _ _ _ _ _ _ _ _ _ _ _ _ _ _ _ _ _ _ _ _ _ _ _ _ _ _ _ _ _ _ _ _ _ _ _ _ _ _ _ _ _ _ _ _ _ _ _ _ _ _ _ _ _ _ _ _ _ _ _ _ _ _ _ _ _ _ _ _ _ _ _ _ _ _ _ _ _ _ _ _ _ _ _ _ _ _ _ _ _ _ _ _ _ _ _ _ _ _ _ _ _ _ _ _ _ _ _ _ _ _ _ _ _ _ _ _ _ _ _ _ _ _ _ _ _ _ _ )
  · obtain ⟨f1, f2, f3, f4, f5, f6, f7, hb0, hb1⟩ := scale_all h11
    have hsl : (scaleR rz by_).length ≤ 17592186044416 := by omega
    have hrl : rz.length ≤ 17592186044416 := by omega
    have H1 := hide (RingStep_any Ar rz.length cr W.heap.size rz W hIAr.out (Nat.le_refl _) hrl hcr hcrm)
    have H2 := hide (fun W' (h : Below W.heap.size W W') => RingStep_any As (scaleR rz by_).length cs W.heap.size (scaleR rz by_) W' (hIAs.out.below h (Nat.le_refl _)) h.size hsl hcs hcsm)
    rw [f1] at H1
    rw [f2] at H2
    have F6 := hide f6
    have F7 := hide f7
    have F4 := hide f4
    have F5 := hide f5
    have h20x : (rstepR rz).length ≤ 20 := by omega
    have h45 := hide (f5.trans f4.symm)
    generalize hxs : rstepR rz = xs at *
    generalize hys : rstepR (scaleR rz by_) = ys at *
    clear f1 f2 f3 f4 f5 f6 f7 hxs hys h11
    go_wp2_with fail
    refine H1.out.mono ?_; rintro e w1 ⟨A1, c1, rfl, _, _, hO1, hb1'⟩
    have hI1 := hide hO1.ints
    have B1 := hide hb1'
    clear hO1 hb1' H1
    go_wp2_with fail
    refine (H2.out _ B1.out).mono ?_; rintro e w2 ⟨A2, c2, rfl, hc2, hc2m, hO2, hb2⟩
    have hI2 := hide hO2.ints
    have hI1 := hide ((hI1.out.below hb2 (Nat.le_refl _)).more hb2.size)
    have B2 := hide (below_next B1.out hb2)
    clear hO2 hb2 H2 B1
    go_wp2_with fail
    go_loopw [487] (fun i W' => ∃ k : Nat, k ≤ xs.length ∧ i = .int .i64 k ∧ ∃ m, W' = w2.drewN m)
      (fun i _ => xs.length - (intOf i).toNat)
    case atStart => exact ⟨0, Nat.zero_le _, rfl, 0, rfl⟩
    case round =>
      obtain ⟨k, hk, rfl, m, rfl⟩ := hrel
      by_cases hlt : k < xs.length
      · obtain ⟨ad1, rfl, _, hc1⟩ := hI1.out.at_ hlt
        obtain ⟨ad2, rfl, _, hc2⟩ := hI2.out.at_ (show k < ys.length by have := h45.out; omega)
        have hky : (k : Int) < (ys.length : Int) := by have := h45.out; omega
        have hkx : (k : Int) < (xs.length : Int) := by omega
        rw [F6.out k (by have := F4.out; omega)] at hc2
        have hb7 := F7.out k (by have := F4.out; omega)
        have hc1 : (w2.drewN m).cell? (ad1.add k) = some (.int .i64 (xs.getD k 0)) := hc1
        have hc2 : (w2.drewN m).cell? (ad2.add k) = some (.int .i64 (xs.getD k 0 * by_)) := hc2
        generalize xs.getD k 0 = x at *
        have hm0 : 0 ≤ x * by_ := Int.mul_nonneg hb7.1 hb0
        have hm1 : x * by_ ≤ 1000 * 1000 := Int.mul_le_mul hb7.2 hb1 hb0 (by omega)
        have hne : (x * by_ != x * by_) = false := by simp
        go_wp2_with fail
        go_region
        go_wp2_with fail
        go_roundw
        case rel => exact ⟨k + 1, by omega, by go_num, _, rfl⟩
        case measure => simp [intOf]; omega
      · have hkx : ¬ (k : Int) < (xs.length : Int) := by omega
        have BX := hide (below_drewN B2.out m)
        go_wp2_with fail
        exact HK.out _ _ (RzG w _ tz at_ h20 At ct (hide ((hIAt.out.below BX.out (Nat.le_refl _)).more (BX.out).size)) hct hctm Ad cd (hide ((hIAd.out.below BX.out (Nat.le_refl _)).more (BX.out).size)) hcd hcdm (hide (hB.out.trans ((BX.out).mono hB.out.size))) _ _ _ _ _ _ _ _ _ _ _ _ _ _ _ _ _ _ _ _ _ _ _ _ _ _ _ _ _ _ _ _ _ _ _ _ _ _ _ _ _ _ _ _ _ _ _ _ _ _ _ _ _ _ _ _ _ _ _ _ _ _ _ _ _ _ _ _ _ _ _ _ _ _ _ _ _ _ _ _ _ _ _ _ _ _ _ _ _ _ _ _ _ _ _ _ _ _ _ _ _ _ _ _ _ _ _ _ _ _ _ _ _ _ _ _ _ _ _ _ _ _ _ _ _ _ _ _ _ _ _ _ _ _ _ _ _ _ _ _ _ _ _ _ _ _ _ _ _ _ _ _ _ _ _ _ _ _ _ _ _ _ _ _ _ _ _ _ _ _ _ _ _ _ _ _ _ _ _ _ _ _ _ _ _ _ _ _ _ _ _ _ _ _ _ _ _ _ _ _ _ _ _ _ _ _ _ _ _ _ _ _ _ _ _ _ _ _ _ _ _ _ _ _ _ _ _ _ _ _ _ _ _ _ _ _ _ _ _ _ _ _ _ _ _ _ _ _ _ _ _ _ _ _ _ _ _ _ _ _ _ _ _ _ _ _ _ _ _ _ _ _ _ _ _ _ _ _ _ _ _ _ _ _ _ _ _ _ _ _ _ _ _ _ _ _ _ _ _ _ _ _ _ _ _ _ _ _ _ _ _ _ _ _ _ _ _ _ _ _ _ _ _ _ _ _ _ _ _ _ _ _ _ _ _ _ _ _ _ _ _ _ _ _ _ _ _ _ _ _ _ _ _ _ _ _ _ _ _ _ _ _ _ _ _ _ _ _ _ _ _ _ _ _ _ _ _ _ _ _ _ _ _ _ _ _ _ _ _ _ _ _ _ _ _ _ _ _ _ _ _ _ _ _ _ _ _ _ _ _ _ _ _ _ _ _ _ _ _ _ _ _ _ _ _ _ _ _ _ _ _ _ _ _ _ _ _ _ _ _ _ _ _ _ _ _ _ _ _ _ _ _ _ _ _ _ _ _ _ _ _ _ _ _ _ _ _ _ _ _ _ _ _ _ _ _ _ _ _ _ _ _ _ _ _ _ _ _ _ _ _ _ _ _ _ _ _ _ _ _ _ _ _ _ _ _ _ _ _ _ _ _ _ _ _ _ _ _ _ _ _ _ _ _ _ _ _ _ _ _ _ _ _ _ _ _ _ _ _ _ _ _ _ _ _ _ _ _ )
end Go.Proofs.Ytcbcgapnoompbaa

/-
  FnRingsBefore: the lifted ring.
-/
namespace Go.Proofs.Ytcbcgapnoompbaa
open Go.RowKit Go.Deep
set_option linter.unusedVariables false

set_option maxRecDepth 100000 in
set_option maxHeartbeats 100000000 in
theorem RzE (w W : World) (tz rz : List Int) (at_ by_ : Int) (h20 : tz.length ≤ 20) (h20r : rz.length ≤ 20) (At : Option Addr) (ct : Nat) (hIAt : Hid (Ints W W.heap.size At tz.length tz)) (hct : tz.length ≤ ct) (hctm : ct ≤ maxLen) (Ad : Option Addr) (cd : Nat) (hIAd : Hid (Ints W W.heap.size Ad (rturnR tz at_).length (rturnR tz at_))) (hcd : (rturnR tz at_).length ≤ cd) (hcdm : cd ≤ maxLen) (Ar : Option Addr) (cr : Nat) (hIAr : Hid (Ints W W.heap.size Ar rz.length rz)) (hcr : rz.length ≤ cr) (hcrm : cr ≤ maxLen) (As : Option Addr) (cs : Nat) (hIAs : Hid (Ints W W.heap.size As (scaleR rz by_).length (scaleR rz by_))) (hcs : (scaleR rz by_).length ≤ cs) (hcsm : cs ≤ maxLen) (Al : Option Addr) (cl : Nat) (hIAl : Hid (Ints W W.heap.size Al (liftR rz by_).length (liftR rz by_))) (hcl : (liftR rz by_).length ≤ cl) (hclm : cl ≤ maxLen) (hB : Hid (Below w.heap.size w W)) (u0 u1 u2 u3 u4 u5 u6 u7 u8 u9 u10 u11 u12 u13 u14 u15 u16 u17 u18 u19 u20 u21 u22 u23 u24 u25 u26 u27 u28 u29 u30 u31 u32 u33 u34 u35 u36 u37 u38 u39 u40 u41 u46 u47 u50 u51 u56 u57 u58 u59 u60 u61 u62 u63 u64 u65 u66 u67 u68 u69 u70 u71 u72 u73 u74 u75 u76 u77 u78 u79 u80 u81 u82 u83 u84 u85 u86 u87 u88 u89 u90 u91 u92 u93 u94 u95 u96 u97 u98 u99 u100 u101 u102 u103 u104 u105 u106 u107 u108 u109 u110 u111 u112 u113 u114 u115 u116 u117 u118 u119 u120 u121 u122 u123 u124 u125 u126 u127 u128 u129 u130 u131 u132 u133 u134 u135 u136 u137 u138 u139 u140 u141 u142 u143 u144 u145 u146 u147 u148 u149 u150 u151 u152 u153 u154 u155 u156 u157 u158 u159 u160 u161 u162 u163 u164 u165 u166 u167 u168 u169 u170 u171 u172 u173 u174 u175 u176 u177 u178 u179 u180 u181 u182 u183 u184 u185 u186 u187 u188 u189 u190 u191 u192 u193 u194 u195 u196 u197 u198 u199 u200 u201 u202 u203 u204 u205 u206 u207 u208 u209 u210 u211 u212 u213 u214 u215 u216 u217 u218 u219 u220 u221 u222 u223 u224 u225 u226 u227 u228 u229 u230 u231 u232 u233 u234 u235 u236 u237 u238 u239 u240 u241 u242 u243 u244 u245 u246 u247 u248 u249 u250 u251 u252 u253 u254 u255 u256 u257 u258 u259 u260 u261 u262 u263 u264 u265 u266 u267 u268 u269 u270 u271 u272 u273 u274 u275 u276 u277 u278 u279 u280 u281 u282 u283 u284 u285 u286 u287 u288 u289 u290 u291 u292 u293 u294 u295 u296 u297 u298 u299 u300 u301 u302 u303 u304 u305 u306 u307 u308 u309 u310 u311 u312 u313 u314 u315 u316 u317 u318 u319 u320 u321 u322 u323 u324 u325 u326 u327 u328 u329 u330 u331 u332 u333 u334 u335 u336 u337 u338 u339 u340 u341 u342 u343 u344 u345 u346 u347 u348 u349 u350 u351 u352 u353 u354 u355 u356 u357 u358 u359 u360 u361 u362 u363 u364 u365 u366 u367 u368 u369 u370 u371 u372 u373 u374 u375 u376 u377 u378 u379 u380 u381 u382 u383 u384 u385 u386 u387 u388 u389 u390 u391 u392 u393 u394 u395 u396 u397 u398 u399 u400 u401 u402 u403 u404 u405 u406 u407 u408 u409 u410 u411 u412 u413 u414 u415 u416 u417 u418 u419 u420 u421 u422 u423 u424 u425 u426 u427 u428 u429 u430 u431 u432 u433 u434 u435 u436 u437 u438 u439 u440 u441 u442 u443 u444 u445 u446 u447 u448 u449 u450 u451 u452 u453 u454 u455 u456 u457 u458 u459 u460 u461 u462 u463 u464 u465 u466 u467 u468 u469 u470 u471 u472 u473 u474 u475 u476 u477 u478 u479 u480 u481 u482 u483 u484 u485 u486 u487 u488 u489 u490 u491 u492 u493 u494 u495 u496 u497 u498 u499 u500 u501 u502 u503 u504 u505 u506 u507 u508 u509 u510 u511 u512 u513 u514 u515 u516 u517 u518 u519 u520 u521 u522 u523 u524 u525 u526 u527 u528 u529 u530 u531 u532 u533 u534 u535 u536 u537 u538 u539 u540 u541 u542 u543 u544 u545 u546 u547 u548 u549 u550 u551 : Value) :
    Code.wp Try.prog (tailN 25 bodyRB) (bodyPost Try.prog Try.f3 (fun e w' => e = .returned (.bool true) ∧ Below w.heap.size w w')) ⟨#[u0, u1, u2, u3, u4, u5, u6, u7, u8, u9, u10, u11, u12, u13, u14, u15, u16, u17, u18, u19, u20, u21, u22, u23, u24, u25, u26, u27, u28, u29, u30, u31, u32, u33, u34, u35, u36, u37, u38, u39, u40, u41, Value.slice Ar rz.length cr, Value.int .i64 by_, Value.slice Al (liftR rz by_).length cl, Value.bool (liftOk rz by_), u46, u47, Value.slice As (scaleR rz by_).length cs, Value.bool (scaleOk rz by_), u50, u51, Value.slice At tz.length ct, Value.int .i64 at_, Value.slice Ad (rturnR tz at_).length cd, Value.bool (rturnOk tz at_), u56, u57, u58, u59, u60, u61, u62, u63, u64, u65, u66, u67, u68, u69, u70, u71, u72, u73, u74, u75, u76, u77, u78, u79, u80, u81, u82, u83, u84, u85, u86, u87, u88, u89, u90, u91, u92, u93, u94, u95, u96, u97, u98, u99, u100, u101, u102, u103, u104, u105, u106, u107, u108, u109, u110, u111, u112, u113, u114, u115, u116, u117, u118, u119, u120, u121, u122, u123, u124, u125, u126, u127, u128, u129, u130, u131, u132, u133, u134, u135, u136, u137, u138, u139, u140, u141, u142, u143, u144, u145, u146, u147, u148, u149, u150, u151, u152, u153, u154, u155, u156, u157, u158, u159, u160, u161, u162, u163, u164, u165, u166, u167, u168, u169, u170, u171, u172, u173, u174, u175, u176, u177, u178, u179, u180, u181, u182, u183, u184, u185, u186, u187, u188, u189, u190, u191, u192, u193, u194, u195, u196, u197, u198, u199, u200, u201, u202, u203, u204, u205, u206, u207, u208, u209, u210, u211, u212, u213, u214, u215, u216, u217, u218, u219, u220, u221, u222, u223, u224, u225, u226, u227, u228, u229, u230, u231, u232, u233, u234, u235, u236, u237, u238, u239, u240, u241, u242, u243, u244, u245, u246, u247, u248, u249, u250, u251, u252, u253, u254, u255, u256, u257, u258, u259, u260, u261, u262, u263, u264, u265, u266, u267, u268, u269, u270, u271, u272, u273, u274, u275, u276, u277, u278, u279, u280, u281, u282, u283, u284, u285, u286, u287, u288, u289, u290, u291, u292, u293, u294, u295, u296, u297, u298, u299, u300, u301, u302, u303, u304, u305, u306, u307, u308, u309, u310, u311, u312, u313, u314, u315, u316, u317, u318, u319, u320, u321, u322, u323, u324, u325, u326, u327, u328, u329, u330, u331, u332, u333, u334, u335, u336, u337, u338, u339, u340, u341, u342, u343, u344, u345, u346, u347, u348, u349, u350, u351, u352, u353, u354, u355, u356, u357, u358, u359, u360, u361, u362, u363, u364, u365, u366, u367, u368, u369, u370, u371, u372, u373, u374, u375, u376, u377, u378, u379, u380, u381, u382, u383, u384, u385, u386, u387, u388, u389, u390, u391, u392, u393, u394, u395, u396, u397, u398, u399, u400, u401, u402, u403, u404, u405, u406, u407, u408, u409, u410, u411, u412, u413, u414, u415, u416, u417, u418, u419, u420, u421, u422, u423, u424, u425, u426, u427, u428, u429, u430, u431, u432, u433, u434, u435, u436, u437, u438, u439, u440, u441, u442, u443, u444, u445, u446, u447, u448, u449, u450, u451, u452, u453, u454, u455, u456, u457, u458, u459, u460, u461, u462, u463, u464, u465, u466, u467, u468, u469, u470, u471, u472, u473, u474, u475, u476, u477, u478, u479, u480, u481, u482, u483, u484, u485, u486, u487, u488, u489, u490, u491, u492, u493, u494, u495, u496, u497, u498, u499, u500, u501, u502, u503, u504, u505, u506, u507, u508, u509, u510, u511, u512, u513, u514, u515, u516, u517, u518, u519, u520, u521, u522, u523, u524, u525, u526, u527, u528, u529, u530, u531, u532, u533, u534, u535, u536, u537, u538, u539, u540, u541, u542, u543, u544, u545, u546, u547, u548, u549, u550, u551], []⟩ W := by
  conv => arg 2; whnf
  refine wp_seq_k (fun K hK => ?_)
  have HK := hide (show ∀ a w', Code.wp Try.prog (tailN 26 bodyRB) (bodyPost Try.prog Try.f3 (fun e w' => e = .returned (.bool true) ∧ Below w.heap.size w w')) a w' → K a w' from hK)
  clear hK
  cases h9 : liftOk rz by_
  · go_wp2_with fail
    exact HK.out _ _ (RzF w W tz rz at_ by_ h20 h20r At ct (hide ((hIAt.out.below (Below.refl W.heap.size W) (Nat.le_refl _)).more ((Below.refl W.heap.size W)).size)) hct hctm Ad cd (hide ((hIAd.out.below (Below.refl W.heap.size W) (Nat.le_refl _)).more ((Below.refl W.heap.size W)).size)) hcd hcdm Ar cr (hide ((hIAr.out.below (Below.refl W.heap.size W) (Nat.le_refl _)).more ((Below.refl W.heap.size W)).size)) hcr hcrm As cs (hide ((hIAs.out.below (Below.refl W.heap.size W) (Nat.le_refl _)).more ((Below.refl W.heap.size W)).size)) hcs hcsm (hide (hB.out.trans (((Below.refl W.heap.size W)).mono hB.out.size))) _ _ _ _ _ _ _ _ _ _ _ _ _ _ _ _ _ _ _ _ _ _ _ _ _ _ _ _ _ _ _ _ _ _ _ _ _ _ _ _ _ _ _ _ _ _ _ _ _ _ _ _ _ _ _ _ _ _ _ _ _ _ _ _ _ _ _ _ _ _ _ _ _ _ _ _ _ _ _ _ _ _ _ _ _ _ _ _ _ _ _ _ _ _ _ _ _ _ _ _ _ _ _ _ _ _ _ _ _ _ _ _ _ _ _ _ _ _ _ _ _ _ _ _ _ _ _ _ _ _ _ _ _ _ _ _ _ _ _ _ _ _ _ _ _ _ _ _ _ _ _ _ _ _ _ _ _ _ _ _ _ _ _ _ _ _ _ _ _ _ _ _ _ _ _ _ _ _ _ _ _ _ _ _ _ _ _ _ _ _ _ _ _ _ _ _ _ _ _ _ _ _ _ _ _ _ _ _ _ _ _ _ _ _ _ _ _ _ _ _ _ _ _ _ _ _ _ _ _ _ _ _ _ _ _ _ _ _ _ _ _ _ _ _ _ _ _ _ _ _ _ _ _ _ _ _ _ _ _ _ _ _ _ _ _ _ _ _ _ _ _ _ _ _ _ _ _ _ _ _ _ _ _ _ _ _ _ _ _ _ _ _ _ _ _ _ _ _ _ _ _ _ _ _ _ _ _ _ _ _ _ _ _ _ _ _ _ _ _ _ _ _ _ _ _ _ _ _ _ _ _ _ _ _ _ _ _ _ _ _ _ _ _ _ _ _ _ _ _ _ _ _ _ _ _ _ _ _ _ _ _ _ _ _ _ _ _ _ _ _ _ _ _ _ _ _ _ _ _ _ _ _ _ _ _ _ _ _ _ _ _ _ _ _ _ _ _ _ _ _ _ _ _ _ _ _ _ _ _ _ _ _ _ _ _ _ _ _ _ _ _ _ _ _ _ _ _ _ _ _ _ _ _ _ _ _ _ _ _ _ _ _ _ _ _ _ _ _ _ _ _ _ _ _ _ _ _ _ _ _ _ _ _ _ _ _ _ _ _ _ _ _ _ _ _ _ _ _ _ _ _ _ _ _ _ _ _ _ _ _ _ _ _ _ _ _ _ _ _ _ _ _ _ _ _ _ _ _ _ _ _ _ _ _ _ _ _ _ _ _ _ _ _ _ _ _ _ _ _ _ _ _ _ _ _ _ _ _ _ _ _ _ _ _ )
  · obtain ⟨f1, f2, f3, f4, f5⟩ := lift_all h9
    have hsl : (liftR rz by_).length ≤ 17592186044416 := by omega
    have hrl : rz.length ≤ 17592186044416 := by omega
    have H1 := hide (RingStep_any Ar rz.length cr W.heap.size rz W hIAr.out (Nat.le_refl _) hrl hcr hcrm)
    have H2 := hide (fun W' (h : Below W.heap.size W W') => RingStep_any Al (liftR rz by_).length cl W.heap.size (liftR rz by_) W' (hIAl.out.below h (Nat.le_refl _)) h.size hsl hcl hclm)
    rw [f1] at H1
    rw [f2, f3] at H2
    have hxl : (rstepR rz).length ≤ 17592186044416 := by omega
    generalize hxs : rstepR rz = xs at *
    clear f1 f2 f3 f4 f5 hxs h9
    go_wp2_with fail
    refine H1.out.mono ?_; rintro e w1 ⟨A1, c1, rfl, _, _, hO1, hb1'⟩
    have hI1 := hide hO1.ints
    have B1 := hide hb1'
    clear hO1 hb1' H1
    go_wp2_with fail
    refine (H2.out _ B1.out).mono ?_; rintro e w2 ⟨A2, c2, rfl, hc2, hc2m, hO2, hb2⟩
    have hI2 := hide hO2.ints
    have hI1 := hide ((hI1.out.below hb2 (Nat.le_refl _)).more hb2.size)
    have B2 := hide (below_next B1.out hb2)
    clear hO2 hb2 H2 B1
    go_wp2_with fail
    refine (kSame_same _ _ _ _ _ _ _ _ _ hI1.out hI2.out (Nat.le_refl _) (Nat.le_refl _) hxl).mono ?_; rintro e w6 ⟨rfl, hb6⟩
    have B6 := hide (below_next B2.out hb6)
    clear hb6 B2
    go_wp2_with fail
    exact HK.out _ _ (RzF w _ tz rz at_ by_ h20 h20r At ct (hide ((hIAt.out.below B6.out (Nat.le_refl _)).more (B6.out).size)) hct hctm Ad cd (hide ((hIAd.out.below B6.out (Nat.le_refl _)).more (B6.out).size)) hcd hcdm Ar cr (hide ((hIAr.out.below B6.out (Nat.le_refl _)).more (B6.out).size)) hcr hcrm As cs (hide ((hIAs.out.below B6.out (Nat.le_refl _)).more (B6.out).size)) hcs hcsm (hide (hB.out.trans ((B6.out).mono hB.out.size))) _ _ _ _ _ _ _ _ _ _ _ _ _ _ _ _ _ _ _ _ _ _ _ _ _ _ _ _ _ _ _ _ _ _ _ _ _ _ _ _ _ _ _ _ _ _ _ _ _ _ _ _ _ _ _ _ _ _ _ _ _ _ _ _ _ _ _ _ _ _ _ _ _ _ _ _ _ _ _ _ _ _ _ _ _ _ _ _ _ _ _ _ _ _ _ _ _ _ _ _ _ _ _ _ _ _ _ _ _ _ _ _ _ _ _ _ _ _ _ _ _ _ _ _ _ _ _ _ _ _ _ _ _ _ _ _ _ _ _ _ _ _ _ _ _ _ _ _ _ _ _ _ _ _ _ _ _ _ _ _ _ _ _ _ _ _ _ _ _ _ _ _ _ _ _ _ _ _ _ _ _ _ _ _ _ _ _ _ _ _ _ _ _ _ _ _ _ _ _ _ _ _ _ _ _ _ _ _ _ _ _ _ _ _ _ _ _ _ _ _ _ _ _ _ _ _ _ _ _ _ _ _ _ _ _ _ _ _ _ _ _ _ _ _ _ _ _ _ _ _ _ _ _ _ _ _ _ _ _ _ _ _ _ _ _ _ _ _ _ _ _ _ _ _ _ _ _ _ _ _ _ _ _ _ _ _ _ _ _ _ _ _ _ _ _ _ _ _ _ _ _ _ _ _ _ _ _ _ _ _ _ _ _ _ _ _ _ _ _ _ _ _ _ _ _ _ _ _ _ _ _ _ _ _ _ _ _ _ _ _ _ _ _ _ _ _ _ _ _ _ _ _ _ _ _ _ _ _ _ _ _ _ _ _ _ _ _ _ _ _ _ _ _ _ _ _ _ _ _ _ _ _ _ _ _ _ _ _ _ _ _ _ _ _ _ _ _ _ _ _ _ _ _ _ _ _ _ _ _ _ _ _ _ _ _ _ _ _ _ _ _ _ _ _ _ _ _ _ _ _ _ _ _ _ _ _ _ _ _ _ _ _ _ _ _ _ _ _ _ _ _ _ _ _ _ _ _ _ _ _ _ _ _ _ _ _ _ _ _ _ _ _ _ _ _ _ _ _ _ _ _ _ _ _ _ _ _ _ _ _ _ _ _ _ _ _ _ _ _ _ _ _ _ _ _ _ _ _ _ _ _ _ _ _ _ _ _ _ _ _ _ _ _ _ _ _ _ _ _ _ _ _ _ _ _ _ _ _ _ _ _ _ _ _ )
end Go.Proofs.Ytcbcgapnoompbaa
