import Derived.Test.YtcbcgapnoompbaaMg23
import Derived.Test.YtcbcgapnoompbaaMg24
import Derived.Test.YtcbcgapnoompbaaMg29

/-
  FnRingsBefore: lifted, scaled and turned rings.
-/
namespace Go.Proofs.Ytcbcgapnoompbaa
open Go.RowKit Go.Deep
set_option linter.unusedVariables false

set_option maxRecDepth 100000 in
set_option maxHeartbeats 100000000 in
theorem RzD (w W : World) (A' : Option Addr) (n' c' : Nat) (hYm : Hid (Bys W W.heap.size A' n')) (hn' : n' ≤ 1048576) (hB : Hid (Below w.heap.size w W)) (u0 u2 u3 u4 u5 u6 u7 u8 u9 u10 u11 u12 u13 u14 u15 u16 u17 u18 u19 u20 u21 u22 u23 u24 u25 u26 u27 u28 u29 u30 u31 u32 u33 u34 u35 u36 u37 u38 u39 u40 u41 u42 u43 u44 u45 u46 u47 u48 u49 u50 u51 u52 u53 u54 u55 u56 u57 u58 u59 u60 u61 u62 u63 u64 u65 u66 u67 u68 u69 u70 u71 u72 u73 u74 u75 u76 u77 u78 u79 u80 u81 u82 u83 u84 u85 u86 u87 u88 u89 u90 u91 u92 u93 u94 u95 u96 u97 u98 u99 u100 u101 u102 u103 u104 u105 u106 u107 u108 u109 u110 u111 u112 u113 u114 u115 u116 u117 u118 u119 u120 u121 u122 u123 u124 u125 u126 u127 u128 u129 u130 u131 u132 u133 u134 u135 u136 u137 u138 u139 u140 u141 u142 u143 u144 u145 u146 u147 u148 u149 u150 u151 u152 u153 u154 u155 u156 u157 u158 u159 u160 u161 u162 u163 u164 u165 u166 u167 u168 u169 u170 u171 u172 u173 u174 u175 u176 u177 u178 u179 u180 u181 u182 u183 u184 u185 u186 u187 u188 u189 u190 u191 u192 u193 u194 u195 u196 u197 u198 u199 u200 u201 u202 u203 u204 u205 u206 u207 u208 u209 u210 u211 u212 u213 u214 u215 u216 u217 u218 u219 u220 u221 u222 u223 u224 u225 u226 u227 u228 u229 u230 u231 u232 u233 u234 u235 u236 u237 u238 u239 u240 u241 u242 u243 u244 u245 u246 u247 u248 u249 u250 u251 u252 u253 u254 u255 u256 u257 u258 u259 u260 u261 u262 u263 u264 u265 u266 u267 u268 u269 u270 u271 u272 u273 u274 u275 u276 u277 u278 u279 u280 u281 u282 u283 u284 u285 u286 u287 u288 u289 u290 u291 u292 u293 u294 u295 u296 u297 u298 u299 u300 u301 u302 u303 u304 u305 u306 u307 u308 u309 u310 u311 u312 u313 u314 u315 u316 u317 u318 u319 u320 u321 u322 u323 u324 u325 u326 u327 u328 u329 u330 u331 u332 u333 u334 u335 u336 u337 u338 u339 u340 u341 u342 u343 u344 u345 u346 u347 u348 u349 u350 u351 u352 u353 u354 u355 u356 u357 u358 u359 u360 u361 u362 u363 u364 u365 u366 u367 u368 u369 u370 u371 u372 u373 u374 u375 u376 u377 u378 u379 u380 u381 u382 u383 u384 u385 u386 u387 u388 u389 u390 u391 u392 u393 u394 u395 u396 u397 u398 u399 u400 u401 u402 u403 u404 u405 u406 u407 u408 u409 u410 u411 u412 u413 u414 u415 u416 u417 u418 u419 u420 u421 u422 u423 u424 u425 u426 u427 u428 u429 u430 u431 u432 u433 u434 u435 u436 u437 u438 u439 u440 u441 u442 u443 u444 u445 u446 u447 u448 u449 u450 u451 u452 u453 u454 u455 u456 u457 u458 u459 u460 u461 u462 u463 u464 u465 u466 u467 u468 u469 u470 u471 u472 u473 u474 u475 u476 u477 u478 u479 u480 u481 u482 u483 u484 u485 u486 u487 u488 u489 u490 u491 u492 u493 u494 u495 u496 u497 u498 u499 u500 u501 u502 u503 u504 u505 u506 u507 u508 u509 u510 u511 u512 u513 u514 u515 u516 u517 u518 u519 u520 u521 u522 u523 u524 u525 u526 u527 u528 u529 u530 u531 u532 u533 u534 u535 u536 u537 u538 u539 u540 u541 u542 u543 u544 u545 u546 u547 u548 u549 u550 u551 : Value) :
    Code.wp Try.prog (tailN 16 bodyRB) (bodyPost Try.prog Try.f3 (fun e w' => e = .returned (.bool true) ∧ Below w.heap.size w w')) ⟨#[u0, Value.slice A' n' c', u2, u3, u4, u5, u6, u7, u8, u9, u10, u11, u12, u13, u14, u15, u16, u17, u18, u19, u20, u21, u22, u23, u24, u25, u26, u27, u28, u29, u30, u31, u32, u33, u34, u35, u36, u37, u38, u39, u40, u41, u42, u43, u44, u45, u46, u47, u48, u49, u50, u51, u52, u53, u54, u55, u56, u57, u58, u59, u60, u61, u62, u63, u64, u65, u66, u67, u68, u69, u70, u71, u72, u73, u74, u75, u76, u77, u78, u79, u80, u81, u82, u83, u84, u85, u86, u87, u88, u89, u90, u91, u92, u93, u94, u95, u96, u97, u98, u99, u100, u101, u102, u103, u104, u105, u106, u107, u108, u109, u110, u111, u112, u113, u114, u115, u116, u117, u118, u119, u120, u121, u122, u123, u124, u125, u126, u127, u128, u129, u130, u131, u132, u133, u134, u135, u136, u137, u138, u139, u140, u141, u142, u143, u144, u145, u146, u147, u148, u149, u150, u151, u152, u153, u154, u155, u156, u157, u158, u159, u160, u161, u162, u163, u164, u165, u166, u167, u168, u169, u170, u171, u172, u173, u174, u175, u176, u177, u178, u179, u180, u181, u182, u183, u184, u185, u186, u187, u188, u189, u190, u191, u192, u193, u194, u195, u196, u197, u198, u199, u200, u201, u202, u203, u204, u205, u206, u207, u208, u209, u210, u211, u212, u213, u214, u215, u216, u217, u218, u219, u220, u221, u222, u223, u224, u225, u226, u227, u228, u229, u230, u231, u232, u233, u234, u235, u236, u237, u238, u239, u240, u241, u242, u243, u244, u245, u246, u247, u248, u249, u250, u251, u252, u253, u254, u255, u256, u257, u258, u259, u260, u261, u262, u263, u264, u265, u266, u267, u268, u269, u270, u271, u272, u273, u274, u275, u276, u277, u278, u279, u280, u281, u282, u283, u284, u285, u286, u287, u288, u289, u290, u291, u292, u293, u294, u295, u296, u297, u298, u299, u300, u301, u302, u303, u304, u305, u306, u307, u308, u309, u310, u311, u312, u313, u314, u315, u316, u317, u318, u319, u320, u321, u322, u323, u324, u325, u326, u327, u328, u329, u330, u331, u332, u333, u334, u335, u336, u337, u338, u339, u340, u341, u342, u343, u344, u345, u346, u347, u348, u349, u350, u351, u352, u353, u354, u355, u356, u357, u358, u359, u360, u361, u362, u363, u364, u365, u366, u367, u368, u369, u370, u371, u372, u373, u374, u375, u376, u377, u378, u379, u380, u381, u382, u383, u384, u385, u386, u387, u388, u389, u390, u391, u392, u393, u394, u395, u396, u397, u398, u399, u400, u401, u402, u403, u404, u405, u406, u407, u408, u409, u410, u411, u412, u413, u414, u415, u416, u417, u418, u419, u420, u421, u422, u423, u424, u425, u426, u427, u428, u429, u430, u431, u432, u433, u434, u435, u436, u437, u438, u439, u440, u441, u442, u443, u444, u445, u446, u447, u448, u449, u450, u451, u452, u453, u454, u455, u456, u457, u458, u459, u460, u461, u462, u463, u464, u465, u466, u467, u468, u469, u470, u471, u472, u473, u474, u475, u476, u477, u478, u479, u480, u481, u482, u483, u484, u485, u486, u487, u488, u489, u490, u491, u492, u493, u494, u495, u496, u497, u498, u499, u500, u501, u502, u503, u504, u505, u506, u507, u508, u509, u510, u511, u512, u513, u514, u515, u516, u517, u518, u519, u520, u521, u522, u523, u524, u525, u526, u527, u528, u529, u530, u531, u532, u533, u534, u535, u536, u537, u538, u539, u540, u541, u542, u543, u544, u545, u546, u547, u548, u549, u550, u551], []⟩ W := by
  conv => arg 2; whnf
  refine wp_seq_k (fun K hK => ?_)
  have HK := hide hK
  clear hK
  go_wp2_with fail
  refine (DrawLiftRing_any A' n' c' W hYm.out hn').mono ?_; rintro e w1 ⟨v, by_, rfl, hxby_, ⟨rz, Ar, cr, rfl, hNAr, hO⟩, hb⟩
  obtain ⟨A_, c_, hv_, hcr, hcrm⟩ := hO.shape; injection hv_ with hv1 hv2 hv3; subst hv1; subst hv3; clear hv2
  have h20Ar := hNAr.1; clear hNAr
  have B1 := hide hb
  replace hYm := hide ((hYm.out.keep fun g hg => (hb).block g hg).more (hb).size)
  have hIAr := hide hO.ints
  clear hO hb
  go_wp2_with fail
  refine HK.out _ _ ?_
  clear HK
  have hrl : rz.length ≤ 17592186044416 := by omega
  have hll : Hid ((liftR rz by_).length ≤ 17592186044416 ∧ (scaleR rz by_).length ≤ 17592186044416) := hide ⟨Nat.le_trans (liftR_short rz by_ (by omega)) (by omega), Nat.le_trans (scaleR_short rz by_ (by omega)) (by omega)⟩
  have e9 : (liftOk rz by_ != liftOk rz by_) = false := by simp
  have e11 : (scaleOk rz by_ != scaleOk rz by_) = false := by simp
  refine wp_seq_k (fun K hK => ?_)
  have HK := hide hK
  clear hK
  go_wp2_with fail
  refine (LiftRing_any Ar rz.length cr _ rz by_ _ hIAr.out (Nat.le_refl _) hrl).mono ?_; rintro e w2 ⟨Al, cl, rfl, hcl, hclm, hO, hb⟩
  have B2 := hide (below_next B1.out hb)
  replace hIAr := hide ((hIAr.out.below hb (Nat.le_refl _)).more (hb).size)
  replace hYm := hide ((hYm.out.keep fun g hg => (hb).block g hg).more (hb).size)
  clear B1
  have hIAl := hide hO.ints
  clear hO hb
  go_wp2_with fail
  refine HK.out _ _ ?_
  clear HK
  refine wp_seq_k (fun K hK => ?_)
  have HK := hide hK
  clear hK
  go_wp2_with fail
  refine (specLiftRing_any Ar rz.length cr _ rz by_ _ hIAr.out (Nat.le_refl _) hrl).mono ?_; rintro e w3 ⟨Al2, cl2, rfl, hcl2, hcl2m, hO, hb⟩
  have B3 := hide (below_next B2.out hb)
  replace hIAr := hide ((hIAr.out.below hb (Nat.le_refl _)).more (hb).size)
  replace hIAl := hide ((hIAl.out.below hb (Nat.le_refl _)).more (hb).size)
  replace hYm := hide ((hYm.out.keep fun g hg => (hb).block g hg).more (hb).size)
  clear B2
  have hIAl2 := hide hO.ints
  clear hO hb
  go_wp2_with fail
  refine HK.out _ _ ?_
  clear HK
  refine wp_seq_k (fun K hK => ?_)
  have HK := hide hK
  clear hK
  go_wp2_with fail
  refine (ScaleRing_any Ar rz.length cr _ rz by_ _ hIAr.out (Nat.le_refl _) hrl).mono ?_; rintro e w4 ⟨As, cs, rfl, hcs, hcsm, hO, hb⟩
  have B4 := hide (below_next B3.out hb)
  replace hIAr := hide ((hIAr.out.below hb (Nat.le_refl _)).more (hb).size)
  replace hIAl := hide ((hIAl.out.below hb (Nat.le_refl _)).more (hb).size)
  replace hIAl2 := hide ((hIAl2.out.below hb (Nat.le_refl _)).more (hb).size)
  replace hYm := hide ((hYm.out.keep fun g hg => (hb).block g hg).more (hb).size)
  clear B3
  have hIAs := hide hO.ints
  clear hO hb
  go_wp2_with fail
  refine HK.out _ _ ?_
  clear HK
  refine wp_seq_k (fun K hK => ?_)
  have HK := hide hK
  clear hK
  go_wp2_with fail
  refine (specScaleRing_any Ar rz.length cr _ rz by_ _ hIAr.out (Nat.le_refl _) hrl).mono ?_; rintro e w5 ⟨As2, cs2, rfl, hcs2, hcs2m, hO, hb⟩
  have B5 := hide (below_next B4.out hb)
  replace hIAr := hide ((hIAr.out.below hb (Nat.le_refl _)).more (hb).size)
  replace hIAl := hide ((hIAl.out.below hb (Nat.le_refl _)).more (hb).size)
  replace hIAl2 := hide ((hIAl2.out.below hb (Nat.le_refl _)).more (hb).size)
  replace hIAs := hide ((hIAs.out.below hb (Nat.le_refl _)).more (hb).size)
  replace hYm := hide ((hYm.out.keep fun g hg => (hb).block g hg).more (hb).size)
  clear B4
  have hIAs2 := hide hO.ints
  clear hO hb
  go_wp2_with fail
  refine HK.out _ _ ?_
  clear HK
  refine wp_seq_k (fun K hK => ?_)
  have HK := hide hK
  clear hK
  go_wp2_with fail
  refine (DrawTurnRing_any A' n' c' _ hYm.out hn').mono ?_; rintro e w6 ⟨v, at_, rfl, hxat_, ⟨tz, At, ct, rfl, hNAt, hO⟩, hb⟩
  obtain ⟨A_, c_, hv_, hct, hctm⟩ := hO.shape; injection hv_ with hv1 hv2 hv3; subst hv1; subst hv3; clear hv2
  have h20At := hNAt.1; clear hNAt
  have B6 := hide (below_next B5.out hb)
  replace hIAr := hide ((hIAr.out.below hb (Nat.le_refl _)).more (hb).size)
  replace hIAl := hide ((hIAl.out.below hb (Nat.le_refl _)).more (hb).size)
  replace hIAl2 := hide ((hIAl2.out.below hb (Nat.le_refl _)).more (hb).size)
  replace hIAs := hide ((hIAs.out.below hb (Nat.le_refl _)).more (hb).size)
  replace hIAs2 := hide ((hIAs2.out.below hb (Nat.le_refl _)).more (hb).size)
  replace hYm := hide ((hYm.out.keep fun g hg => (hb).block g hg).more (hb).size)
  clear B5
  have hIAt := hide hO.ints
  clear hO hb
  go_wp2_with fail
  refine HK.out _ _ ?_
  clear HK
  have htl : tz.length ≤ 17592186044416 := by omega
  have hdl : Hid ((rturnR tz at_).length ≤ 17592186044416) := hide (Nat.le_trans (rturnR_short tz at_ (by omega)) (by omega))
  have e13 : (rturnOk tz at_ != rturnOk tz at_) = false := by simp
  refine wp_seq_k (fun K hK => ?_)
  have HK := hide hK
  clear hK
  go_wp2_with fail
  refine (TurnRing_any At tz.length ct _ tz at_ _ hIAt.out (Nat.le_refl _) htl hct hctm).mono ?_; rintro e w7 ⟨Ad, cd, rfl, hcd, hcdm, hO, hb⟩
  have B7 := hide (below_next B6.out hb)
  replace hIAr := hide ((hIAr.out.below hb (Nat.le_refl _)).more (hb).size)
  replace hIAl := hide ((hIAl.out.below hb (Nat.le_refl _)).more (hb).size)
  replace hIAl2 := hide ((hIAl2.out.below hb (Nat.le_refl _)).more (hb).size)
  replace hIAs := hide ((hIAs.out.below hb (Nat.le_refl _)).more (hb).size)
  replace hIAs2 := hide ((hIAs2.out.below hb (Nat.le_refl _)).more (hb).size)
  replace hIAt := hide ((hIAt.out.below hb (Nat.le_refl _)).more (hb).size)
  replace hYm := hide ((hYm.out.keep fun g hg => (hb).block g hg).more (hb).size)
  clear B6
  have hIAd := hide hO.ints
  clear hO hb
  go_wp2_with fail
  refine HK.out _ _ ?_
  clear HK
  refine wp_seq_k (fun K hK => ?_)
  have HK := hide hK
  clear hK
  go_wp2_with fail
  refine (specTurnRing_any At tz.length ct _ tz at_ _ hIAt.out (Nat.le_refl _) htl hct hctm).mono ?_; rintro e w8 ⟨Ad2, cd2, rfl, hcd2, hcd2m, hO, hb⟩
  have B8 := hide (below_next B7.out hb)
  replace hIAr := hide ((hIAr.out.below hb (Nat.le_refl _)).more (hb).size)
  replace hIAl := hide ((hIAl.out.below hb (Nat.le_refl _)).more (hb).size)
  replace hIAl2 := hide ((hIAl2.out.below hb (Nat.le_refl _)).more (hb).size)
  replace hIAs := hide ((hIAs.out.below hb (Nat.le_refl _)).more (hb).size)
  replace hIAs2 := hide ((hIAs2.out.below hb (Nat.le_refl _)).more (hb).size)
  replace hIAt := hide ((hIAt.out.below hb (Nat.le_refl _)).more (hb).size)
  replace hIAd := hide ((hIAd.out.below hb (Nat.le_refl _)).more (hb).size)
  replace hYm := hide ((hYm.out.keep fun g hg => (hb).block g hg).more (hb).size)
  clear B7
  have hIAd2 := hide hO.ints
  clear hO hb
  go_wp2_with fail
  refine HK.out _ _ ?_
  clear HK
  refine wp_seq_k (fun K hK => ?_)
  have HK := hide (show ∀ a w', Code.wp Try.prog (tailN 25 bodyRB) (bodyPost Try.prog Try.f3 (fun e w' => e = .returned (.bool true) ∧ Below w.heap.size w w')) a w' → K a w' from hK)
  clear hK
  go_wp2_with fail
  refine (kSame_same _ _ _ _ _ _ _ _ _ hIAl.out hIAl2.out (Nat.le_refl _) (Nat.le_refl _) hll.out.1).mono ?_; rintro e w9 ⟨rfl, hb⟩
  have B9 := hide (below_next B8.out hb)
  replace hIAr := hide ((hIAr.out.below hb (Nat.le_refl _)).more (hb).size)
  replace hIAl := hide ((hIAl.out.below hb (Nat.le_refl _)).more (hb).size)
  replace hIAl2 := hide ((hIAl2.out.below hb (Nat.le_refl _)).more (hb).size)
  replace hIAs := hide ((hIAs.out.below hb (Nat.le_refl _)).more (hb).size)
  replace hIAs2 := hide ((hIAs2.out.below hb (Nat.le_refl _)).more (hb).size)
  replace hIAt := hide ((hIAt.out.below hb (Nat.le_refl _)).more (hb).size)
  replace hIAd := hide ((hIAd.out.below hb (Nat.le_refl _)).more (hb).size)
  replace hIAd2 := hide ((hIAd2.out.below hb (Nat.le_refl _)).more (hb).size)
  clear B8
  clear hb
  go_wp2_with fail
  refine (kSame_same _ _ _ _ _ _ _ _ _ hIAs.out hIAs2.out (Nat.le_refl _) (Nat.le_refl _) hll.out.2).mono ?_; rintro e w10 ⟨rfl, hb⟩
  have B10 := hide (below_next B9.out hb)
  replace hIAr := hide ((hIAr.out.below hb (Nat.le_refl _)).more (hb).size)
  replace hIAl := hide ((hIAl.out.below hb (Nat.le_refl _)).more (hb).size)
  replace hIAl2 := hide ((hIAl2.out.below hb (Nat.le_refl _)).more (hb).size)
  replace hIAs := hide ((hIAs.out.below hb (Nat.le_refl _)).more (hb).size)
  replace hIAs2 := hide ((hIAs2.out.below hb (Nat.le_refl _)).more (hb).size)
  replace hIAt := hide ((hIAt.out.below hb (Nat.le_refl _)).more (hb).size)
  replace hIAd := hide ((hIAd.out.below hb (Nat.le_refl _)).more (hb).size)
  replace hIAd2 := hide ((hIAd2.out.below hb (Nat.le_refl _)).more (hb).size)
  clear B9
  clear hb
  go_wp2_with fail
  refine (kSame_same _ _ _ _ _ _ _ _ _ hIAd.out hIAd2.out (Nat.le_refl _) (Nat.le_refl _) hdl.out).mono ?_; rintro e w11 ⟨rfl, hb⟩
  have B11 := hide (below_next B10.out hb)
  replace hIAr := hide ((hIAr.out.below hb (Nat.le_refl _)).more (hb).size)
  replace hIAl := hide ((hIAl.out.below hb (Nat.le_refl _)).more (hb).size)
  replace hIAl2 := hide ((hIAl2.out.below hb (Nat.le_refl _)).more (hb).size)
  replace hIAs := hide ((hIAs.out.below hb (Nat.le_refl _)).more (hb).size)
  replace hIAs2 := hide ((hIAs2.out.below hb (Nat.le_refl _)).more (hb).size)
  replace hIAt := hide ((hIAt.out.below hb (Nat.le_refl _)).more (hb).size)
  replace hIAd := hide ((hIAd.out.below hb (Nat.le_refl _)).more (hb).size)
  replace hIAd2 := hide ((hIAd2.out.below hb (Nat.le_refl _)).more (hb).size)
  clear B10
  clear hb
  go_wp2_with fail
  exact HK.out _ _ (RzE w _ tz rz at_ by_ h20At h20Ar At ct hIAt hct hctm Ad cd hIAd hcd hcdm Ar cr hIAr hcr hcrm As cs hIAs hcs hcsm Al cl hIAl hcl hclm (hide (hB.out.trans (B11.out.mono hB.out.size))) _ _ _ _ _ _ _ _ _ _ _ _ _ _ _ _ _ _ _ _ _ _ _ _ _ _ _ _ _ _ _ _ _ _ _ _ _ _ _ _ _ _ _ _ _ _ _ _ _ _ _ _ _ _ _ _ _ _ _ _ _ _ _ _ _ _ _ _ _ _ _ _ _ _ _ _ _ _ _ _ _ _ _ _ _ _ _ _ _ _ _ _ _ _ _ _ _ _ _ _ _ _ _ _ _ _ _ _ _ _ _ _ _ _ _ _ _ _ _ _ _ _ _ _ _ _ _ _ _ _ _ _ _ _ _ _ _ _ _ _ _ _ _ _ _ _ _ _ _ _ _ _ _ _ _ _ _ _ _ _ _ _ _ _ _ _ _ _ _ _ _ _ _ _ _ _ _ _ _ _ _ _ _ _ _ _ _ _ _ _ _ _ _ _ _ _ _ _ _ _ _ _ _ _ _ _ _ _ _ _ _ _ _ _ _ _ _ _ _ _ _ _ _ _ _ _ _ _ _ _ _ _ _ _ _ _ _ _ _ _ _ _ _ _ _ _ _ _ _ _ _ _ _ _ _ _ _ _ _ _ _ _ _ _ _ _ _ _ _ _ _ _ _ _ _ _ _ _ _ _ _ _ _ _ _ _ _ _ _ _ _ _ _ _ _ _ _ _ _ _ _ _ _ _ _ _ _ _ _ _ _ _ _ _ _ _ _ _ _ _ _ _ _ _ _ _ _ _ _ _ _ _ _ _ _ _ _ _ _ _ _ _ _ _ _ _ _ _ _ _ _ _ _ _ _ _ _ _ _ _ _ _ _ _ _ _ _ _ _ _ _ _ _ _ _ _ _ _ _ _ _ _ _ _ _ _ _ _ _ _ _ _ _ _ _ _ _ _ _ _ _ _ _ _ _ _ _ _ _ _ _ _ _ _ _ _ _ _ _ _ _ _ _ _ _ _ _ _ _ _ _ _ _ _ _ _ _ _ _ _ _ _ _ _ _ _ _ _ _ _ _ _ _ _ _ _ _ _ _ _ _ _ _ _ _ _ _ _ _ _ _ _ _ _ _ _ _ _ _ _ _ _ _ _ _ _ _ _ _ _ _ _ _ _ _ _ _ _ _ _ _ _ _ _ _ _ _ _ _ _ _ _ _ _ _ _ _ _ _ _ _ _ _ _ _ _ _ _ _ _ _ _ _ _ _ _ _ _ _ _ _ _ )
end Go.Proofs.Ytcbcgapnoompbaa
