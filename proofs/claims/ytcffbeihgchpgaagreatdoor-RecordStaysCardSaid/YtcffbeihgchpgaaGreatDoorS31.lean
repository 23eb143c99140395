/- The document's own step (chapter 9): what an operation lacks. -/
import Derived.Test.YtcffbeihgchpgaaGreatDoorS29
namespace Go.Proofs.YtcffbeihgchpgaaGreatDoor.Inn
open Go.RowKit Book Mem Mach
set_option linter.unusedVariables false
set_option linter.unusedSimpArgs false
/-- does a piece of code, a block too, begin with this region? -/
def begins10 (k : Nat) : Code → Bool
  | .region n _ _ => n == k
  | .seq a _ => begins10 k a
  | .block _ c => begins10 k c
  | _ => false
/-- the code from a region on, with the block that begins with it -/
def from10 (k : Nat) : Code → Option Code
  | .seq a b => if begins10 k a then some (.seq a b) else match from10 k a with
    | some d => some d
    | none => if begins10 k b then some b else from10 k b
  | _ => none
noncomputable def codeOf (k : Nat) : Code := ((Tryz.f18.body.bind (from10 k)).getD .skip)
set_option maxRecDepth 1000000 in
/-- from a region on, what an operation takes and gives being known -/
def AtL (j : Nat) (w : World) (g x r : Nat) (k arg A B X Y n nb : Int) (R : Ending → World → Prop) : Prop := ∀ {c0 c12 c13 c14 c15 c16 c17 c18 c19 c20 c21 c22 c23 c24 c25 c26 c27 c28 c29 c30 c31 c32 c33 c34 c35 c36 c37 c38 c39 c40 c41 c42 c43 c44 c45 c46 c47 c48 c49 c50 c51 c52 c53 c54 c55 c56 c57 c58 c59 c60 c61 c62 c63 c64 c65 c66 c67 c68 c69 c70 c71 c72 c73 c74 c75 c76 c77 c78 c79 c80 c81 c82 c83 c84 c85 c86 c87 c88 c89 c90 c91 c92 c93 c94 c95 c96 c97 c98 c99 c100 c101 c102 c103 c104 c105 c106 c107 c108 c109 c110 c111 c112 c113 c114 c115 c116 c117 c118 c119 c120 c121 c122 c123 c124 c125 c126 c127 c128 c129 c130 c131 c132 c133 c134 c135 c136 c137 c138 c139 c140 c141 c142 c143 c144 c145 c146 c147 c148 c149 c150 c151 c152 c153 c154 c155 c156 c157 c158 c159 c160 c161 c162 c163 c164 c165 c166 c167 c168 c169 c170 c171 c172 c173 c174 c175 c176 c177 c178 c179 c180 c181 c182 c183 c184 c185 c186 c187 c188 c189 c190 c191 c192 c193 c194 c195 c196 c197 c198 c199 c200 c201 c202 c203 c204 c205 c206 c207 c208 c209 c210 c211 c212 c213 c214 c215 c216 c217 c218 c219 c220 c221 c222 c223 c224 c225 c226 c227 c228 c229 c230 c231 c232 c233 c234 c235 c236 c237 c238 c239 c240 c241 c242 c243 c244 c245 c246 c247 c248 c249 c250 c251 c252 c253 c254 c255 c256 c257 c258 c259 c260 c261 c262 c263 c264 c265 c266 c267 c268 c269 c270 c271 c272 c273 c274 c275 c276 c277 c278 c279 c280 c281 c282 c283 c284 c285 c286 c287 c288 c289 c290 c291 c292 c293 c294 c295 c296 c297 c298 c299 c300 c301 c302 c303 c304 c305 c306 c307 c308 c309 c310 c311 c312 c313 c314 c315 c316 c317 c318 c319 c320 c321 c322 c323 c324 c325 c326 c327 c328 c329 c330 c331 c332 c333 c334 c335 c336 c337 c338 c339 c340 c341 c342 c343 c344 c345 c346 c347 c348 c349 c350 c351 c352 c353 c354 c355 c356 c357 c358 c359 c360 c361 c362 c363 c364 c365 c366 c367 c368 c369 c370 c371 c372 c373 c374 c375 c376 c377 c378 c379 c380 c381 c382 c383 c384 c385 c386 c387 c388 c389 c390 c391 c392 c393 c394 c395 c396 c397 c398 c399 c400 c401 c402 c403 c404 c405 c406 c407 c408 c409 c410 c411 c412 c413 c414 c415 c416 c417 c418 c419 c420 c421 c422 c423 c424 c425 c426 c427 c428 c429 c430 c431 c432 c433 c434 c435 c436 c437 c438 c439 c440 c441 c442 c443 c444 c445 c446 c447 c448 c449 c450 c451 c452 c453 c454 c455 c456 c457 c458 c459 c460 c461 c462 c463 c464 c465 c466 c467 c468 c469 c470 c471 c472 c473 c474 c475 c476 c477 c478 c479 c480 c481 c482 c483 c484 c485 c486 c487 c488 c489 c490 c491 c492 c493 c494 c495 c496 c497 c498 c499 c500 c501 c502 c503 c504 c505 c506 c507 c508 c509 c510 c511 c512 c513 c514 c515 c516 c517 c518 c519 c520 c521 c522 c523 c524 c525 c526 c527 c528 c529 c530 c531 c532 c533 c534 c535 c536 c537 c538 c539 c540 c541 c542 c543 c544 c545 c546 c547 c548 c549 c550 c551 c552 c553 c554 c555 c556 c557 c558 c559 c560 c561 c562 c563 c564 c565 c566 c567 c568 c569 c570 c571 c572 c573 c574 c575 c576 c577 c578 c579 c580 c581 c582 c583 c584 c585 c586 c587 c588 c589 c590 c591 c592 c593 c594 c595 c596 c597 c598 c599 c600 c601 c602 c603 c604 c605 c606 c607 c608 c609 c610 c611 c612 c613 : Value}, Code.wp Tryz.prog (codeOf j) (bodyPost Tryz.prog Tryz.f18 R) ⟨#[c0, .pointer (some ⟨g, 0, none⟩), .pointer (some ⟨r, 0, none⟩), .pointer (some ⟨x, 0, none⟩), .int .i64 k, .int .i64 arg, .int .i64 A, .int .i64 B, .int .i64 X, .int .i64 Y, .int .i64 n, .int .i64 nb, c12, c13, c14, c15, c16, c17, c18, c19, c20, c21, c22, c23, c24, c25, c26, c27, c28, c29, c30, c31, c32, c33, c34, c35, c36, c37, c38, c39, c40, c41, c42, c43, c44, c45, c46, c47, c48, c49, c50, c51, c52, c53, c54, c55, c56, c57, c58, c59, c60, c61, c62, c63, c64, c65, c66, c67, c68, c69, c70, c71, c72, c73, c74, c75, c76, c77, c78, c79, c80, c81, c82, c83, c84, c85, c86, c87, c88, c89, c90, c91, c92, c93, c94, c95, c96, c97, c98, c99, c100, c101, c102, c103, c104, c105, c106, c107, c108, c109, c110, c111, c112, c113, c114, c115, c116, c117, c118, c119, c120, c121, c122, c123, c124, c125, c126, c127, c128, c129, c130, c131, c132, c133, c134, c135, c136, c137, c138, c139, c140, c141, c142, c143, c144, c145, c146, c147, c148, c149, c150, c151, c152, c153, c154, c155, c156, c157, c158, c159, c160, c161, c162, c163, c164, c165, c166, c167, c168, c169, c170, c171, c172, c173, c174, c175, c176, c177, c178, c179, c180, c181, c182, c183, c184, c185, c186, c187, c188, c189, c190, c191, c192, c193, c194, c195, c196, c197, c198, c199, c200, c201, c202, c203, c204, c205, c206, c207, c208, c209, c210, c211, c212, c213, c214, c215, c216, c217, c218, c219, c220, c221, c222, c223, c224, c225, c226, c227, c228, c229, c230, c231, c232, c233, c234, c235, c236, c237, c238, c239, c240, c241, c242, c243, c244, c245, c246, c247, c248, c249, c250, c251, c252, c253, c254, c255, c256, c257, c258, c259, c260, c261, c262, c263, c264, c265, c266, c267, c268, c269, c270, c271, c272, c273, c274, c275, c276, c277, c278, c279, c280, c281, c282, c283, c284, c285, c286, c287, c288, c289, c290, c291, c292, c293, c294, c295, c296, c297, c298, c299, c300, c301, c302, c303, c304, c305, c306, c307, c308, c309, c310, c311, c312, c313, c314, c315, c316, c317, c318, c319, c320, c321, c322, c323, c324, c325, c326, c327, c328, c329, c330, c331, c332, c333, c334, c335, c336, c337, c338, c339, c340, c341, c342, c343, c344, c345, c346, c347, c348, c349, c350, c351, c352, c353, c354, c355, c356, c357, c358, c359, c360, c361, c362, c363, c364, c365, c366, c367, c368, c369, c370, c371, c372, c373, c374, c375, c376, c377, c378, c379, c380, c381, c382, c383, c384, c385, c386, c387, c388, c389, c390, c391, c392, c393, c394, c395, c396, c397, c398, c399, c400, c401, c402, c403, c404, c405, c406, c407, c408, c409, c410, c411, c412, c413, c414, c415, c416, c417, c418, c419, c420, c421, c422, c423, c424, c425, c426, c427, c428, c429, c430, c431, c432, c433, c434, c435, c436, c437, c438, c439, c440, c441, c442, c443, c444, c445, c446, c447, c448, c449, c450, c451, c452, c453, c454, c455, c456, c457, c458, c459, c460, c461, c462, c463, c464, c465, c466, c467, c468, c469, c470, c471, c472, c473, c474, c475, c476, c477, c478, c479, c480, c481, c482, c483, c484, c485, c486, c487, c488, c489, c490, c491, c492, c493, c494, c495, c496, c497, c498, c499, c500, c501, c502, c503, c504, c505, c506, c507, c508, c509, c510, c511, c512, c513, c514, c515, c516, c517, c518, c519, c520, c521, c522, c523, c524, c525, c526, c527, c528, c529, c530, c531, c532, c533, c534, c535, c536, c537, c538, c539, c540, c541, c542, c543, c544, c545, c546, c547, c548, c549, c550, c551, c552, c553, c554, c555, c556, c557, c558, c559, c560, c561, c562, c563, c564, c565, c566, c567, c568, c569, c570, c571, c572, c573, c574, c575, c576, c577, c578, c579, c580, c581, c582, c583, c584, c585, c586, c587, c588, c589, c590, c591, c592, c593, c594, c595, c596, c597, c598, c599, c600, c601, c602, c603, c604, c605, c606, c607, c608, c609, c610, c611, c612, c613], []⟩ w
set_option maxRecDepth 1000000 in
theorem AtL.use {j : Nat} {w : World} {g x r : Nat} {k arg A B X Y n nb : Int} {R : Ending → World → Prop} (h : AtL j w g x r k arg A B X Y n nb R) {c0 c12 c13 c14 c15 c16 c17 c18 c19 c20 c21 c22 c23 c24 c25 c26 c27 c28 c29 c30 c31 c32 c33 c34 c35 c36 c37 c38 c39 c40 c41 c42 c43 c44 c45 c46 c47 c48 c49 c50 c51 c52 c53 c54 c55 c56 c57 c58 c59 c60 c61 c62 c63 c64 c65 c66 c67 c68 c69 c70 c71 c72 c73 c74 c75 c76 c77 c78 c79 c80 c81 c82 c83 c84 c85 c86 c87 c88 c89 c90 c91 c92 c93 c94 c95 c96 c97 c98 c99 c100 c101 c102 c103 c104 c105 c106 c107 c108 c109 c110 c111 c112 c113 c114 c115 c116 c117 c118 c119 c120 c121 c122 c123 c124 c125 c126 c127 c128 c129 c130 c131 c132 c133 c134 c135 c136 c137 c138 c139 c140 c141 c142 c143 c144 c145 c146 c147 c148 c149 c150 c151 c152 c153 c154 c155 c156 c157 c158 c159 c160 c161 c162 c163 c164 c165 c166 c167 c168 c169 c170 c171 c172 c173 c174 c175 c176 c177 c178 c179 c180 c181 c182 c183 c184 c185 c186 c187 c188 c189 c190 c191 c192 c193 c194 c195 c196 c197 c198 c199 c200 c201 c202 c203 c204 c205 c206 c207 c208 c209 c210 c211 c212 c213 c214 c215 c216 c217 c218 c219 c220 c221 c222 c223 c224 c225 c226 c227 c228 c229 c230 c231 c232 c233 c234 c235 c236 c237 c238 c239 c240 c241 c242 c243 c244 c245 c246 c247 c248 c249 c250 c251 c252 c253 c254 c255 c256 c257 c258 c259 c260 c261 c262 c263 c264 c265 c266 c267 c268 c269 c270 c271 c272 c273 c274 c275 c276 c277 c278 c279 c280 c281 c282 c283 c284 c285 c286 c287 c288 c289 c290 c291 c292 c293 c294 c295 c296 c297 c298 c299 c300 c301 c302 c303 c304 c305 c306 c307 c308 c309 c310 c311 c312 c313 c314 c315 c316 c317 c318 c319 c320 c321 c322 c323 c324 c325 c326 c327 c328 c329 c330 c331 c332 c333 c334 c335 c336 c337 c338 c339 c340 c341 c342 c343 c344 c345 c346 c347 c348 c349 c350 c351 c352 c353 c354 c355 c356 c357 c358 c359 c360 c361 c362 c363 c364 c365 c366 c367 c368 c369 c370 c371 c372 c373 c374 c375 c376 c377 c378 c379 c380 c381 c382 c383 c384 c385 c386 c387 c388 c389 c390 c391 c392 c393 c394 c395 c396 c397 c398 c399 c400 c401 c402 c403 c404 c405 c406 c407 c408 c409 c410 c411 c412 c413 c414 c415 c416 c417 c418 c419 c420 c421 c422 c423 c424 c425 c426 c427 c428 c429 c430 c431 c432 c433 c434 c435 c436 c437 c438 c439 c440 c441 c442 c443 c444 c445 c446 c447 c448 c449 c450 c451 c452 c453 c454 c455 c456 c457 c458 c459 c460 c461 c462 c463 c464 c465 c466 c467 c468 c469 c470 c471 c472 c473 c474 c475 c476 c477 c478 c479 c480 c481 c482 c483 c484 c485 c486 c487 c488 c489 c490 c491 c492 c493 c494 c495 c496 c497 c498 c499 c500 c501 c502 c503 c504 c505 c506 c507 c508 c509 c510 c511 c512 c513 c514 c515 c516 c517 c518 c519 c520 c521 c522 c523 c524 c525 c526 c527 c528 c529 c530 c531 c532 c533 c534 c535 c536 c537 c538 c539 c540 c541 c542 c543 c544 c545 c546 c547 c548 c549 c550 c551 c552 c553 c554 c555 c556 c557 c558 c559 c560 c561 c562 c563 c564 c565 c566 c567 c568 c569 c570 c571 c572 c573 c574 c575 c576 c577 c578 c579 c580 c581 c582 c583 c584 c585 c586 c587 c588 c589 c590 c591 c592 c593 c594 c595 c596 c597 c598 c599 c600 c601 c602 c603 c604 c605 c606 c607 c608 c609 c610 c611 c612 c613 : Value} : Code.wp Tryz.prog (codeOf j) (bodyPost Tryz.prog Tryz.f18 R) ⟨#[c0, .pointer (some ⟨g, 0, none⟩), .pointer (some ⟨r, 0, none⟩), .pointer (some ⟨x, 0, none⟩), .int .i64 k, .int .i64 arg, .int .i64 A, .int .i64 B, .int .i64 X, .int .i64 Y, .int .i64 n, .int .i64 nb, c12, c13, c14, c15, c16, c17, c18, c19, c20, c21, c22, c23, c24, c25, c26, c27, c28, c29, c30, c31, c32, c33, c34, c35, c36, c37, c38, c39, c40, c41, c42, c43, c44, c45, c46, c47, c48, c49, c50, c51, c52, c53, c54, c55, c56, c57, c58, c59, c60, c61, c62, c63, c64, c65, c66, c67, c68, c69, c70, c71, c72, c73, c74, c75, c76, c77, c78, c79, c80, c81, c82, c83, c84, c85, c86, c87, c88, c89, c90, c91, c92, c93, c94, c95, c96, c97, c98, c99, c100, c101, c102, c103, c104, c105, c106, c107, c108, c109, c110, c111, c112, c113, c114, c115, c116, c117, c118, c119, c120, c121, c122, c123, c124, c125, c126, c127, c128, c129, c130, c131, c132, c133, c134, c135, c136, c137, c138, c139, c140, c141, c142, c143, c144, c145, c146, c147, c148, c149, c150, c151, c152, c153, c154, c155, c156, c157, c158, c159, c160, c161, c162, c163, c164, c165, c166, c167, c168, c169, c170, c171, c172, c173, c174, c175, c176, c177, c178, c179, c180, c181, c182, c183, c184, c185, c186, c187, c188, c189, c190, c191, c192, c193, c194, c195, c196, c197, c198, c199, c200, c201, c202, c203, c204, c205, c206, c207, c208, c209, c210, c211, c212, c213, c214, c215, c216, c217, c218, c219, c220, c221, c222, c223, c224, c225, c226, c227, c228, c229, c230, c231, c232, c233, c234, c235, c236, c237, c238, c239, c240, c241, c242, c243, c244, c245, c246, c247, c248, c249, c250, c251, c252, c253, c254, c255, c256, c257, c258, c259, c260, c261, c262, c263, c264, c265, c266, c267, c268, c269, c270, c271, c272, c273, c274, c275, c276, c277, c278, c279, c280, c281, c282, c283, c284, c285, c286, c287, c288, c289, c290, c291, c292, c293, c294, c295, c296, c297, c298, c299, c300, c301, c302, c303, c304, c305, c306, c307, c308, c309, c310, c311, c312, c313, c314, c315, c316, c317, c318, c319, c320, c321, c322, c323, c324, c325, c326, c327, c328, c329, c330, c331, c332, c333, c334, c335, c336, c337, c338, c339, c340, c341, c342, c343, c344, c345, c346, c347, c348, c349, c350, c351, c352, c353, c354, c355, c356, c357, c358, c359, c360, c361, c362, c363, c364, c365, c366, c367, c368, c369, c370, c371, c372, c373, c374, c375, c376, c377, c378, c379, c380, c381, c382, c383, c384, c385, c386, c387, c388, c389, c390, c391, c392, c393, c394, c395, c396, c397, c398, c399, c400, c401, c402, c403, c404, c405, c406, c407, c408, c409, c410, c411, c412, c413, c414, c415, c416, c417, c418, c419, c420, c421, c422, c423, c424, c425, c426, c427, c428, c429, c430, c431, c432, c433, c434, c435, c436, c437, c438, c439, c440, c441, c442, c443, c444, c445, c446, c447, c448, c449, c450, c451, c452, c453, c454, c455, c456, c457, c458, c459, c460, c461, c462, c463, c464, c465, c466, c467, c468, c469, c470, c471, c472, c473, c474, c475, c476, c477, c478, c479, c480, c481, c482, c483, c484, c485, c486, c487, c488, c489, c490, c491, c492, c493, c494, c495, c496, c497, c498, c499, c500, c501, c502, c503, c504, c505, c506, c507, c508, c509, c510, c511, c512, c513, c514, c515, c516, c517, c518, c519, c520, c521, c522, c523, c524, c525, c526, c527, c528, c529, c530, c531, c532, c533, c534, c535, c536, c537, c538, c539, c540, c541, c542, c543, c544, c545, c546, c547, c548, c549, c550, c551, c552, c553, c554, c555, c556, c557, c558, c559, c560, c561, c562, c563, c564, c565, c566, c567, c568, c569, c570, c571, c572, c573, c574, c575, c576, c577, c578, c579, c580, c581, c582, c583, c584, c585, c586, c587, c588, c589, c590, c591, c592, c593, c594, c595, c596, c597, c598, c599, c600, c601, c602, c603, c604, c605, c606, c607, c608, c609, c610, c611, c612, c613], []⟩ w := h
section
variable {W w : World} {g x r : Nat} {ip hh i arg : Int} {st bk me : List Int} {ou inn : ByteArray} {rd stt cd : Int} {vs0 vb0 vm0 : Value} {so bo mo : Option Addr} {n nb nm sc bc mc : Nat}
set_option maxHeartbeats 8000000 in
set_option maxRecDepth 1000000 in
theorem lack_under (hS : SB W g x r (cells10 ip hh vs0 vb0 vm0 ou inn rd stt cd) (cells10 ip hh (.slice so n sc) (.slice bo nb bc) (.slice mo nm mc) ou inn rd stt cd) (.slice so n sc) (.slice bo nb bc) (.slice mo nm mc) st bk me w) (hn : st.length = n) (hnb : bk.length = nb) (hnm : me.length = nm) (l1 : n ≤ 48) (l2 : nb ≤ 48) (l3 : nm ≤ 3000) (rs : ReadsC W vs0 st) (rb : ReadsC W vb0 bk) (rm : ReadsC W vm0 me) (j0 : 0 ≤ ip) (j1 : ip < (nm : Int)) (rd0 : 0 ≤ rd) (rd1 : rd ≤ (inn.size : Int)) (ou1 : ou.size ≤ 2000) (in1 : inn.size ≤ maxLen) (cl : Cells ⟨ip, hh, st, bk, me, ou, inn, rd, stt, cd⟩) (k : Int) {A B X Y : Int} (a0 : 0 ≤ A ∧ A ≤ 4) (b0 : 0 ≤ B ∧ B ≤ 4) (x0 : 0 ≤ X ∧ X ≤ 4) (y0 : 0 ≤ Y ∧ Y ≤ 4) (c1 : (n : Int) < A) :
    AtL 22 w g x r k arg A B X Y n nb (TellsK vs0 vb0 vm0 ⟨ip, hh, st, bk, me, ou, inn, rd, stt, cd⟩ (Mach.fault ⟨ip, hh, st, bk, me, ou, inn, rd, stt, cd⟩ (-4)) W) := by
  have HS := Lib.hid hS
  have HGH := Lib.hid (And.intro hn (And.intro hnb hnm))
  have HRD := Lib.hid (And.intro rs (And.intro rb rm))
  have FT0 : ∀ code, Hid (∀ wc, Below W.heap.size W wc → _) := fun code => Lib.hid (fun wc (hw : Below W.heap.size W wc) => refFault_told (m := ⟨ip, hh, st, bk, me, ou, inn, rd, stt, cd⟩) rs rb rm (by show bk.length ≤ 48; rw [hnb]; exact l2) (by show st.length ≤ 48; rw [hn]; exact l1) hw code)
  have HLOW := Lib.hid hS.low.2
  have FT := FT0 (-4)
  clear hS hn hnb hnm rs rb rm cl rd0 rd1 ou1 in1 FT0
  obtain ⟨a0, a1⟩ := a0
  obtain ⟨b0, b1⟩ := b0
  obtain ⟨x0, x1⟩ := x0
  obtain ⟨y0, y1⟩ := y0
  unfold AtL
  intros
  conv => arg 2; whnf
  go_wp2_with (first
    | (refine ld_state (by rfl) _ rfl _ rfl _ _ HS.out.hg rfl ?_)
    | (go_at_call 50; refine (FT.out _ HS.out.hb).mono ?_; rintro e wn ⟨s1, n1, c1', s2, n2, c2', s3, n3, c3', rfl, hk, hb⟩; have HKM := Lib.hid hk; have HRR := Lib.hid (boxOn HS.out.hr hb); clear hk hb)
    | (refine st_state (by rfl) _ _ rfl r _ rfl rfl _ _ HRR.out rfl rfl (all_one rfl rfl rfl) ?_; intro wf hrf htf; have HRF := Lib.hid hrf; have HTF := Lib.hid htf; clear hrf htf))
  refine bodyPost_ret (results_cell_row rfl _ _ r _ _ _ _ rfl HRF.out Tryz.underlying24 rfl state_size) rfl ?_
  exact KinM.box HKM.out HRR.out HLOW.out HTF.out
set_option maxHeartbeats 8000000 in
set_option maxRecDepth 1000000 in
theorem lack_back (hS : SB W g x r (cells10 ip hh vs0 vb0 vm0 ou inn rd stt cd) (cells10 ip hh (.slice so n sc) (.slice bo nb bc) (.slice mo nm mc) ou inn rd stt cd) (.slice so n sc) (.slice bo nb bc) (.slice mo nm mc) st bk me w) (hn : st.length = n) (hnb : bk.length = nb) (hnm : me.length = nm) (l1 : n ≤ 48) (l2 : nb ≤ 48) (l3 : nm ≤ 3000) (rs : ReadsC W vs0 st) (rb : ReadsC W vb0 bk) (rm : ReadsC W vm0 me) (j0 : 0 ≤ ip) (j1 : ip < (nm : Int)) (rd0 : 0 ≤ rd) (rd1 : rd ≤ (inn.size : Int)) (ou1 : ou.size ≤ 2000) (in1 : inn.size ≤ maxLen) (cl : Cells ⟨ip, hh, st, bk, me, ou, inn, rd, stt, cd⟩) (k : Int) {A B X Y : Int} (a0 : 0 ≤ A ∧ A ≤ 4) (b0 : 0 ≤ B ∧ B ≤ 4) (x0 : 0 ≤ X ∧ X ≤ 4) (y0 : 0 ≤ Y ∧ Y ≤ 4) (c1 : ¬ (n : Int) < A) (c2 : (nb : Int) < B) :
    AtL 22 w g x r k arg A B X Y n nb (TellsK vs0 vb0 vm0 ⟨ip, hh, st, bk, me, ou, inn, rd, stt, cd⟩ (Mach.fault ⟨ip, hh, st, bk, me, ou, inn, rd, stt, cd⟩ (-6)) W) := by
  have HS := Lib.hid hS
  have HGH := Lib.hid (And.intro hn (And.intro hnb hnm))
  have HRD := Lib.hid (And.intro rs (And.intro rb rm))
  have FT0 : ∀ code, Hid (∀ wc, Below W.heap.size W wc → _) := fun code => Lib.hid (fun wc (hw : Below W.heap.size W wc) => refFault_told (m := ⟨ip, hh, st, bk, me, ou, inn, rd, stt, cd⟩) rs rb rm (by show bk.length ≤ 48; rw [hnb]; exact l2) (by show st.length ≤ 48; rw [hn]; exact l1) hw code)
  have HLOW := Lib.hid hS.low.2
  have FT := FT0 (-6)
  clear hS hn hnb hnm rs rb rm cl rd0 rd1 ou1 in1 FT0
  obtain ⟨a0, a1⟩ := a0
  obtain ⟨b0, b1⟩ := b0
  obtain ⟨x0, x1⟩ := x0
  obtain ⟨y0, y1⟩ := y0
  unfold AtL
  intros
  conv => arg 2; whnf
  go_wp2_with (first
    | (refine ld_state (by rfl) _ rfl _ rfl _ _ HS.out.hg rfl ?_)
    | (go_at_call 50; refine (FT.out _ HS.out.hb).mono ?_; rintro e wn ⟨s1, n1, c1', s2, n2, c2', s3, n3, c3', rfl, hk, hb⟩; have HKM := Lib.hid hk; have HRR := Lib.hid (boxOn HS.out.hr hb); clear hk hb)
    | (refine st_state (by rfl) _ _ rfl r _ rfl rfl _ _ HRR.out rfl rfl (all_one rfl rfl rfl) ?_; intro wf hrf htf; have HRF := Lib.hid hrf; have HTF := Lib.hid htf; clear hrf htf))
  refine bodyPost_ret (results_cell_row rfl _ _ r _ _ _ _ rfl HRF.out Tryz.underlying24 rfl state_size) rfl ?_
  exact KinM.box HKM.out HRR.out HLOW.out HTF.out
set_option maxHeartbeats 8000000 in
set_option maxRecDepth 1000000 in
theorem lack_over (hS : SB W g x r (cells10 ip hh vs0 vb0 vm0 ou inn rd stt cd) (cells10 ip hh (.slice so n sc) (.slice bo nb bc) (.slice mo nm mc) ou inn rd stt cd) (.slice so n sc) (.slice bo nb bc) (.slice mo nm mc) st bk me w) (hn : st.length = n) (hnb : bk.length = nb) (hnm : me.length = nm) (l1 : n ≤ 48) (l2 : nb ≤ 48) (l3 : nm ≤ 3000) (rs : ReadsC W vs0 st) (rb : ReadsC W vb0 bk) (rm : ReadsC W vm0 me) (j0 : 0 ≤ ip) (j1 : ip < (nm : Int)) (rd0 : 0 ≤ rd) (rd1 : rd ≤ (inn.size : Int)) (ou1 : ou.size ≤ 2000) (in1 : inn.size ≤ maxLen) (cl : Cells ⟨ip, hh, st, bk, me, ou, inn, rd, stt, cd⟩) (k : Int) {A B X Y : Int} (a0 : 0 ≤ A ∧ A ≤ 4) (b0 : 0 ≤ B ∧ B ≤ 4) (x0 : 0 ≤ X ∧ X ≤ 4) (y0 : 0 ≤ Y ∧ Y ≤ 4) (c1 : ¬ (n : Int) < A) (c2 : ¬ (nb : Int) < B) (c3 : 48 < (n : Int) - A + X) :
    AtL 22 w g x r k arg A B X Y n nb (TellsK vs0 vb0 vm0 ⟨ip, hh, st, bk, me, ou, inn, rd, stt, cd⟩ (Mach.fault ⟨ip, hh, st, bk, me, ou, inn, rd, stt, cd⟩ (-3)) W) := by
  have HS := Lib.hid hS
  have HGH := Lib.hid (And.intro hn (And.intro hnb hnm))
  have HRD := Lib.hid (And.intro rs (And.intro rb rm))
  have FT0 : ∀ code, Hid (∀ wc, Below W.heap.size W wc → _) := fun code => Lib.hid (fun wc (hw : Below W.heap.size W wc) => refFault_told (m := ⟨ip, hh, st, bk, me, ou, inn, rd, stt, cd⟩) rs rb rm (by show bk.length ≤ 48; rw [hnb]; exact l2) (by show st.length ≤ 48; rw [hn]; exact l1) hw code)
  have HLOW := Lib.hid hS.low.2
  have FT := FT0 (-3)
  clear hS hn hnb hnm rs rb rm cl rd0 rd1 ou1 in1 FT0
  obtain ⟨a0, a1⟩ := a0
  obtain ⟨b0, b1⟩ := b0
  obtain ⟨x0, x1⟩ := x0
  obtain ⟨y0, y1⟩ := y0
  unfold AtL
  intros
  conv => arg 2; whnf
  go_wp2_with (first
    | (refine ld_state (by rfl) _ rfl _ rfl _ _ HS.out.hg rfl ?_)
    | (go_at_call 50; refine (FT.out _ HS.out.hb).mono ?_; rintro e wn ⟨s1, n1, c1', s2, n2, c2', s3, n3, c3', rfl, hk, hb⟩; have HKM := Lib.hid hk; have HRR := Lib.hid (boxOn HS.out.hr hb); clear hk hb)
    | (refine st_state (by rfl) _ _ rfl r _ rfl rfl _ _ HRR.out rfl rfl (all_one rfl rfl rfl) ?_; intro wf hrf htf; have HRF := Lib.hid hrf; have HTF := Lib.hid htf; clear hrf htf))
  refine bodyPost_ret (results_cell_row rfl _ _ r _ _ _ _ rfl HRF.out Tryz.underlying24 rfl state_size) rfl ?_
  exact KinM.box HKM.out HRR.out HLOW.out HTF.out
set_option maxHeartbeats 8000000 in
set_option maxRecDepth 1000000 in
theorem lack_full (hS : SB W g x r (cells10 ip hh vs0 vb0 vm0 ou inn rd stt cd) (cells10 ip hh (.slice so n sc) (.slice bo nb bc) (.slice mo nm mc) ou inn rd stt cd) (.slice so n sc) (.slice bo nb bc) (.slice mo nm mc) st bk me w) (hn : st.length = n) (hnb : bk.length = nb) (hnm : me.length = nm) (l1 : n ≤ 48) (l2 : nb ≤ 48) (l3 : nm ≤ 3000) (rs : ReadsC W vs0 st) (rb : ReadsC W vb0 bk) (rm : ReadsC W vm0 me) (j0 : 0 ≤ ip) (j1 : ip < (nm : Int)) (rd0 : 0 ≤ rd) (rd1 : rd ≤ (inn.size : Int)) (ou1 : ou.size ≤ 2000) (in1 : inn.size ≤ maxLen) (cl : Cells ⟨ip, hh, st, bk, me, ou, inn, rd, stt, cd⟩) (k : Int) {A B X Y : Int} (a0 : 0 ≤ A ∧ A ≤ 4) (b0 : 0 ≤ B ∧ B ≤ 4) (x0 : 0 ≤ X ∧ X ≤ 4) (y0 : 0 ≤ Y ∧ Y ≤ 4) (c1 : ¬ (n : Int) < A) (c2 : ¬ (nb : Int) < B) (c3 : ¬ 48 < (n : Int) - A + X) (c4 : 48 < (nb : Int) - B + Y) :
    AtL 22 w g x r k arg A B X Y n nb (TellsK vs0 vb0 vm0 ⟨ip, hh, st, bk, me, ou, inn, rd, stt, cd⟩ (Mach.fault ⟨ip, hh, st, bk, me, ou, inn, rd, stt, cd⟩ (-5)) W) := by
  have HS := Lib.hid hS
  have HGH := Lib.hid (And.intro hn (And.intro hnb hnm))
  have HRD := Lib.hid (And.intro rs (And.intro rb rm))
  have FT0 : ∀ code, Hid (∀ wc, Below W.heap.size W wc → _) := fun code => Lib.hid (fun wc (hw : Below W.heap.size W wc) => refFault_told (m := ⟨ip, hh, st, bk, me, ou, inn, rd, stt, cd⟩) rs rb rm (by show bk.length ≤ 48; rw [hnb]; exact l2) (by show st.length ≤ 48; rw [hn]; exact l1) hw code)
  have HLOW := Lib.hid hS.low.2
  have FT := FT0 (-5)
  clear hS hn hnb hnm rs rb rm cl rd0 rd1 ou1 in1 FT0
  obtain ⟨a0, a1⟩ := a0
  obtain ⟨b0, b1⟩ := b0
  obtain ⟨x0, x1⟩ := x0
  obtain ⟨y0, y1⟩ := y0
  unfold AtL
  intros
  conv => arg 2; whnf
  go_wp2_with (first
    | (refine ld_state (by rfl) _ rfl _ rfl _ _ HS.out.hg rfl ?_)
    | (go_at_call 50; refine (FT.out _ HS.out.hb).mono ?_; rintro e wn ⟨s1, n1, c1', s2, n2, c2', s3, n3, c3', rfl, hk, hb⟩; have HKM := Lib.hid hk; have HRR := Lib.hid (boxOn HS.out.hr hb); clear hk hb)
    | (refine st_state (by rfl) _ _ rfl r _ rfl rfl _ _ HRR.out rfl rfl (all_one rfl rfl rfl) ?_; intro wf hrf htf; have HRF := Lib.hid hrf; have HTF := Lib.hid htf; clear hrf htf))
  refine bodyPost_ret (results_cell_row rfl _ _ r _ _ _ _ rfl HRF.out Tryz.underlying24 rfl state_size) rfl ?_
  exact KinM.box HKM.out HRR.out HLOW.out HTF.out
set_option maxHeartbeats 8000000 in
set_option maxRecDepth 1000000 in
theorem lack_none (hS : SB W g x r (cells10 ip hh vs0 vb0 vm0 ou inn rd stt cd) (cells10 ip hh (.slice so n sc) (.slice bo nb bc) (.slice mo nm mc) ou inn rd stt cd) (.slice so n sc) (.slice bo nb bc) (.slice mo nm mc) st bk me w) (hn : st.length = n) (hnb : bk.length = nb) (hnm : me.length = nm) (l1 : n ≤ 48) (l2 : nb ≤ 48) (l3 : nm ≤ 3000) (rs : ReadsC W vs0 st) (rb : ReadsC W vb0 bk) (rm : ReadsC W vm0 me) (j0 : 0 ≤ ip) (j1 : ip < (nm : Int)) (rd0 : 0 ≤ rd) (rd1 : rd ≤ (inn.size : Int)) (ou1 : ou.size ≤ 2000) (in1 : inn.size ≤ maxLen) (cl : Cells ⟨ip, hh, st, bk, me, ou, inn, rd, stt, cd⟩) (k A : Int) {B X Y : Int} (a0 : 0 ≤ A ∧ A ≤ 4) (b0 : 0 ≤ B ∧ B ≤ 4) (x0 : 0 ≤ X ∧ X ≤ 4) (y0 : 0 ≤ Y ∧ Y ≤ 4) (c1 : ¬ (n : Int) < A) (c2 : ¬ (nb : Int) < B) (c3 : ¬ 48 < (n : Int) - A + X) (c4 : ¬ 48 < (nb : Int) - B + Y) {R : Ending → World → Prop} (hw : ∀ v12 v13 v14, At 30 w g x r k arg A n nb v12 v13 v14 R) :
    AtL 22 w g x r k arg A B X Y n nb R := by
  have HW := Lib.hid hw
  clear hw hS
  obtain ⟨a0, a1⟩ := a0
  obtain ⟨b0, b1⟩ := b0
  obtain ⟨x0, x1⟩ := x0
  obtain ⟨y0, y1⟩ := y0
  unfold AtL
  intros
  conv => arg 2; whnf
  dsimp only
  go_upto_if 128 with fail
  refine wp_cond_false (by rfl) (wp_skip ?_)
  refine ‹∀ (a : Act) (w : World), Code.wp _ _ _ a w → _› _ _ ?_
  refine At.use (j := 30) ?_
  unfold At
  intros
  exact HW.out _ _ _
end
end Go.Proofs.YtcffbeihgchpgaaGreatDoor.Inn
/- The document's own step (chapter 9): what an operation takes and gives is looked up. -/
namespace Go.Proofs.YtcffbeihgchpgaaGreatDoor.Inn
open Go.RowKit Book Mem Mach
set_option linter.unusedVariables false
set_option linter.unusedSimpArgs false
section
variable {W w : World} {g x r : Nat} {ip hh i arg : Int} {st bk me : List Int} {ou inn : ByteArray} {rd stt cd : Int} {vs0 vb0 vm0 : Value} {so bo mo : Option Addr} {n nb nm sc bc mc : Nat}
set_option maxHeartbeats 8000000 in
set_option maxRecDepth 1000000 in
theorem at20 (hS : SB W g x r (cells10 ip hh vs0 vb0 vm0 ou inn rd stt cd) (cells10 ip hh (.slice so n sc) (.slice bo nb bc) (.slice mo nm mc) ou inn rd stt cd) (.slice so n sc) (.slice bo nb bc) (.slice mo nm mc) st bk me w) (hn : st.length = n) (hnb : bk.length = nb) (hnm : me.length = nm) (l1 : n ≤ 48) (l2 : nb ≤ 48) (l3 : nm ≤ 3000) (rs : ReadsC W vs0 st) (rb : ReadsC W vb0 bk) (rm : ReadsC W vm0 me) (j0 : 0 ≤ ip) (j1 : ip < (nm : Int)) (rd0 : 0 ≤ rd) (rd1 : rd ≤ (inn.size : Int)) (ou1 : ou.size ≤ 2000) (in1 : inn.size ≤ maxLen) (cl : Cells ⟨ip, hh, st, bk, me, ou, inn, rd, stt, cd⟩) (k : Nat) (hk : k < 48) {A B X Y : Int} (hm : movesOf k = (A, B, X, Y)) {R : Ending → World → Prop} (hw : ∀ w', SB W g x r (cells10 ip hh vs0 vb0 vm0 ou inn rd stt cd) (cells10 ip hh (.slice so n sc) (.slice bo nb bc) (.slice mo nm mc) ou inn rd stt cd) (.slice so n sc) (.slice bo nb bc) (.slice mo nm mc) st bk me w' → AtL 22 w' g x r k arg A B X Y n nb R) :
    AtK 20 w g x r k arg R := by
  have HS := Lib.hid hS
  have HW := Lib.hid hw
  have CM := Lib.hid (refMoves_at k hk w)
  rw [hm] at CM
  clear hw hS
  unfold AtK
  intros
  conv => arg 2; whnf
  go_upto_region 21 with (first
    | (go_at_call 52; refine CM.out.mono ?_; rintro e wz ⟨rfl, hwz⟩; subst hwz))
  have k2 := whole_cell (j := 2) HS.out.hx rfl
  have k3 := whole_cell (j := 3) HS.out.hx rfl
  go_quiet (fail)
  refine ‹∀ (a : Act) (w : World), Code.wp _ _ _ a w → _› _ _ ?_
  refine AtL.use (j := 22) ?_
  unfold AtL
  intros
  exact HW.out _ (HS.out.drewN nq)
end
end Go.Proofs.YtcffbeihgchpgaaGreatDoor.Inn
