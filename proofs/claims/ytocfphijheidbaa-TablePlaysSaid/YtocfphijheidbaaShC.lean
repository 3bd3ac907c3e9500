/- What a digest begins with, and the constants of its turns: contracts. -/
import Derived.Test.YtocfphijheidbaaShB
import Derived.Laws.Tables
namespace Go.Proofs.Ytocfphijheidbaa
open Go.RowKit

def iniL : List Int := [14680500436340154072, 7105036623409894663, 10473403895298186519, 1526699215303891257, 7436329637833083697, 10282925794625328401, 15784041429090275239, 5167115440072839076]
def kayL : List Int := [4794697086780616226, 8158064640168781261, 13096744586834688815, 16840607885511220156, 4131703408338449720, 6480981068601479193, 10538285296894168987, 12329834152419229976, 15566598209576043074, 1334009975649890238, 2608012711638119052, 6128411473006802146, 8268148722764581231, 9286055187155687089, 11230858885718282805, 13951009754708518548, 16472876342353939154, 17275323862435702243, 1135362057144423861, 2597628984639134821, 3308224258029322869, 5365058923640841347, 6679025012923562964, 8573033837759648693, 10970295158949994411, 12119686244451234320, 12683024718118986047, 13788192230050041572, 14330467153632333762, 15395433587784984357, 489312712824947311, 1452737877330783856, 2861767655752347644, 3322285676063803686, 5560940570517711597, 5996557281743188959, 7280758554555802590, 8532644243296465576, 9350256976987008742, 10552545826968843579, 11727347734174303076, 12113106623233404929, 14000437183269869457, 14369950271660146224, 15101387698204529176, 15463397548674623760, 17586052441742319658, 1182934255886127544, 1847814050463011016, 2177327727835720531, 2830643537854262169, 3796741975233480872, 4115178125766777443, 5681478168544905931, 6601373596472566643, 7507060721942968483, 8399075790359081724, 8693463985226723168, 9568029438360202098, 10144078919501101548, 10430055236837252648, 11840083180663258601, 13761210420658862357, 14299343276471374635, 14566680578165727644, 15097957966210449927, 16922976911328602910, 17689382322260857208, 500013540394364858, 748580250866718886, 1242879168328830382, 1977374033974150939, 2944078676154940804, 3659926193048069267, 4368137639120453308, 4836135668995329356, 5532061633213252278, 6448918945643986474, 6902733635092675308, 7801388544844847127]
def iniF (j : Nat) : Int := iniL.getD j 0
def kayF (j : Nat) : Int := kayL.getD j 0
theorem zero8 : #[Value.int .u64 0, Value.int .u64 0, Value.int .u64 0, Value.int .u64 0, Value.int .u64 0, Value.int .u64 0, Value.int .u64 0, Value.int .u64 0] = (arL .u64 8 (fun _ => 0)).toArray := by kernel_rfl
set_option maxRecDepth 100000 in
theorem ini_lit : #[Value.int .u64 14680500436340154072, Value.int .u64 7105036623409894663, Value.int .u64 10473403895298186519, Value.int .u64 1526699215303891257, Value.int .u64 7436329637833083697, Value.int .u64 10282925794625328401, Value.int .u64 15784041429090275239, Value.int .u64 5167115440072839076] = (arL .u64 8 iniF).toArray := by kernel_rfl
set_option maxRecDepth 100000 in
theorem kay_lit : #[Value.int .u64 4794697086780616226, Value.int .u64 8158064640168781261, Value.int .u64 13096744586834688815, Value.int .u64 16840607885511220156, Value.int .u64 4131703408338449720, Value.int .u64 6480981068601479193, Value.int .u64 10538285296894168987, Value.int .u64 12329834152419229976, Value.int .u64 15566598209576043074, Value.int .u64 1334009975649890238, Value.int .u64 2608012711638119052, Value.int .u64 6128411473006802146, Value.int .u64 8268148722764581231, Value.int .u64 9286055187155687089, Value.int .u64 11230858885718282805, Value.int .u64 13951009754708518548, Value.int .u64 16472876342353939154, Value.int .u64 17275323862435702243, Value.int .u64 1135362057144423861, Value.int .u64 2597628984639134821, Value.int .u64 3308224258029322869, Value.int .u64 5365058923640841347, Value.int .u64 6679025012923562964, Value.int .u64 8573033837759648693, Value.int .u64 10970295158949994411, Value.int .u64 12119686244451234320, Value.int .u64 12683024718118986047, Value.int .u64 13788192230050041572, Value.int .u64 14330467153632333762, Value.int .u64 15395433587784984357, Value.int .u64 489312712824947311, Value.int .u64 1452737877330783856, Value.int .u64 2861767655752347644, Value.int .u64 3322285676063803686, Value.int .u64 5560940570517711597, Value.int .u64 5996557281743188959, Value.int .u64 7280758554555802590, Value.int .u64 8532644243296465576, Value.int .u64 9350256976987008742, Value.int .u64 10552545826968843579, Value.int .u64 11727347734174303076, Value.int .u64 12113106623233404929, Value.int .u64 14000437183269869457, Value.int .u64 14369950271660146224, Value.int .u64 15101387698204529176, Value.int .u64 15463397548674623760, Value.int .u64 17586052441742319658, Value.int .u64 1182934255886127544, Value.int .u64 1847814050463011016, Value.int .u64 2177327727835720531, Value.int .u64 2830643537854262169, Value.int .u64 3796741975233480872, Value.int .u64 4115178125766777443, Value.int .u64 5681478168544905931, Value.int .u64 6601373596472566643, Value.int .u64 7507060721942968483, Value.int .u64 8399075790359081724, Value.int .u64 8693463985226723168, Value.int .u64 9568029438360202098, Value.int .u64 10144078919501101548, Value.int .u64 10430055236837252648, Value.int .u64 11840083180663258601, Value.int .u64 13761210420658862357, Value.int .u64 14299343276471374635, Value.int .u64 14566680578165727644, Value.int .u64 15097957966210449927, Value.int .u64 16922976911328602910, Value.int .u64 17689382322260857208, Value.int .u64 500013540394364858, Value.int .u64 748580250866718886, Value.int .u64 1242879168328830382, Value.int .u64 1977374033974150939, Value.int .u64 2944078676154940804, Value.int .u64 3659926193048069267, Value.int .u64 4368137639120453308, Value.int .u64 4836135668995329356, Value.int .u64 5532061633213252278, Value.int .u64 6448918945643986474, Value.int .u64 6902733635092675308, Value.int .u64 7801388544844847127] = (arL .u64 80 kayF).toArray := by kernel_rfl
def kayB : Array (Nat × Operand) := #[(0, Operand.const (Value.int .u64 4794697086780616226)), (1, Operand.const (Value.int .u64 8158064640168781261)), (2, Operand.const (Value.int .u64 13096744586834688815)), (3, Operand.const (Value.int .u64 16840607885511220156)), (4, Operand.const (Value.int .u64 4131703408338449720)), (5, Operand.const (Value.int .u64 6480981068601479193)), (6, Operand.const (Value.int .u64 10538285296894168987)), (7, Operand.const (Value.int .u64 12329834152419229976)), (8, Operand.const (Value.int .u64 15566598209576043074)), (9, Operand.const (Value.int .u64 1334009975649890238)), (10, Operand.const (Value.int .u64 2608012711638119052)), (11, Operand.const (Value.int .u64 6128411473006802146)), (12, Operand.const (Value.int .u64 8268148722764581231)), (13, Operand.const (Value.int .u64 9286055187155687089)), (14, Operand.const (Value.int .u64 11230858885718282805)), (15, Operand.const (Value.int .u64 13951009754708518548)), (16, Operand.const (Value.int .u64 16472876342353939154)), (17, Operand.const (Value.int .u64 17275323862435702243)), (18, Operand.const (Value.int .u64 1135362057144423861)), (19, Operand.const (Value.int .u64 2597628984639134821)), (20, Operand.const (Value.int .u64 3308224258029322869)), (21, Operand.const (Value.int .u64 5365058923640841347)), (22, Operand.const (Value.int .u64 6679025012923562964)), (23, Operand.const (Value.int .u64 8573033837759648693)), (24, Operand.const (Value.int .u64 10970295158949994411)), (25, Operand.const (Value.int .u64 12119686244451234320)), (26, Operand.const (Value.int .u64 12683024718118986047)), (27, Operand.const (Value.int .u64 13788192230050041572)), (28, Operand.const (Value.int .u64 14330467153632333762)), (29, Operand.const (Value.int .u64 15395433587784984357)), (30, Operand.const (Value.int .u64 489312712824947311)), (31, Operand.const (Value.int .u64 1452737877330783856)), (32, Operand.const (Value.int .u64 2861767655752347644)), (33, Operand.const (Value.int .u64 3322285676063803686)), (34, Operand.const (Value.int .u64 5560940570517711597)), (35, Operand.const (Value.int .u64 5996557281743188959)), (36, Operand.const (Value.int .u64 7280758554555802590)), (37, Operand.const (Value.int .u64 8532644243296465576)), (38, Operand.const (Value.int .u64 9350256976987008742)), (39, Operand.const (Value.int .u64 10552545826968843579)), (40, Operand.const (Value.int .u64 11727347734174303076)), (41, Operand.const (Value.int .u64 12113106623233404929)), (42, Operand.const (Value.int .u64 14000437183269869457)), (43, Operand.const (Value.int .u64 14369950271660146224)), (44, Operand.const (Value.int .u64 15101387698204529176)), (45, Operand.const (Value.int .u64 15463397548674623760)), (46, Operand.const (Value.int .u64 17586052441742319658)), (47, Operand.const (Value.int .u64 1182934255886127544)), (48, Operand.const (Value.int .u64 1847814050463011016)), (49, Operand.const (Value.int .u64 2177327727835720531)), (50, Operand.const (Value.int .u64 2830643537854262169)), (51, Operand.const (Value.int .u64 3796741975233480872)), (52, Operand.const (Value.int .u64 4115178125766777443)), (53, Operand.const (Value.int .u64 5681478168544905931)), (54, Operand.const (Value.int .u64 6601373596472566643)), (55, Operand.const (Value.int .u64 7507060721942968483)), (56, Operand.const (Value.int .u64 8399075790359081724)), (57, Operand.const (Value.int .u64 8693463985226723168)), (58, Operand.const (Value.int .u64 9568029438360202098)), (59, Operand.const (Value.int .u64 10144078919501101548)), (60, Operand.const (Value.int .u64 10430055236837252648)), (61, Operand.const (Value.int .u64 11840083180663258601)), (62, Operand.const (Value.int .u64 13761210420658862357)), (63, Operand.const (Value.int .u64 14299343276471374635)), (64, Operand.const (Value.int .u64 14566680578165727644)), (65, Operand.const (Value.int .u64 15097957966210449927)), (66, Operand.const (Value.int .u64 16922976911328602910)), (67, Operand.const (Value.int .u64 17689382322260857208)), (68, Operand.const (Value.int .u64 500013540394364858)), (69, Operand.const (Value.int .u64 748580250866718886)), (70, Operand.const (Value.int .u64 1242879168328830382)), (71, Operand.const (Value.int .u64 1977374033974150939)), (72, Operand.const (Value.int .u64 2944078676154940804)), (73, Operand.const (Value.int .u64 3659926193048069267)), (74, Operand.const (Value.int .u64 4368137639120453308)), (75, Operand.const (Value.int .u64 4836135668995329356)), (76, Operand.const (Value.int .u64 5532061633213252278)), (77, Operand.const (Value.int .u64 6448918945643986474)), (78, Operand.const (Value.int .u64 6902733635092675308)), (79, Operand.const (Value.int .u64 7801388544844847127))]
set_option maxRecDepth 100000 in
theorem kay_built (a : Act) : Try.prog.built 165 (kayB.map fun (i, x) => (i, a.eval x)).toList = some (arL .u64 80 kayF).toArray := by kernel_rfl
set_option maxRecDepth 100000 in
set_option maxHeartbeats 4000000 in
theorem first_any (w : World) : Calls Try.prog 64 #[] w fun e w' => e = .returned (.agg (arL .u64 8 iniF).toArray) ∧ Below w.heap.size w w' := by
  have hB := (Below.refl w.heap.size w).alloc (Nat.le_refl _) (.cells #[Value.int .u64 0, Value.int .u64 0, Value.int .u64 0, Value.int .u64 0, Value.int .u64 0, Value.int .u64 0, Value.int .u64 0, Value.int .u64 0] 118)
  have a0 := arA_new (k := .u64) (n := 8) (f := fun _ => 0) w 118
  rw [← zero8] at a0
  obtain ⟨w1, hw1⟩ : ∃ x, w.alloc (.cells #[Value.int .u64 0, Value.int .u64 0, Value.int .u64 0, Value.int .u64 0, Value.int .u64 0, Value.int .u64 0, Value.int .u64 0, Value.int .u64 0] 118) = x := ⟨_, rfl⟩
  obtain ⟨q, hq⟩ : ∃ x, w.heap.size = x := ⟨_, rfl⟩
  rw [hw1] at a0 hB
  have HQ := Lib.hid (show w.heap.size ≤ q by omega)
  have HA := Lib.hid (show ArA .u64 8 w1 q 0 (fun _ => 0) by rw [← hq]; exact a0)
  have HB := Lib.hid hB
  have HW := Lib.hid hw1
  have HQE := Lib.hid hq
  have HL := Lib.hid ini_lit
  clear a0 hB hw1 hq
  go_enter Try.func64, Try.ntmps64
  go_upto_region 1 with (fail)
  rw [HW.out, HQE.out]
  clear HW HQE
  iterate 4 go_step
  rw [HL.out]
  refine wpList_store_mid rfl 118 (.tmp 0) (.tmp 1) rfl _ _ (arL .u64 8 iniF).toArray rfl rfl (by rw [List.size_toArray, arL_length]; exact HA.out.there) (by rw [List.size_toArray, arL_length]; kernel_rfl) arL_one ?_
  clear HL
  iterate 5 go_step
  refine bodyPost_ret (v := .agg (arL .u64 8 iniF).toArray) ?_ rfl ⟨rfl, shb_setCells HB.out HQ.out _ _⟩
  rw [results_cell1 Try.results64]
  have hr := run_loadVar_mid (P := Try.prog) (w1.setCells q 0 (arL .u64 8 iniF)) q 0 118 (arL .u64 8 iniF) _ (arA_stored HA.out).range Try.underlying118 rfl (by rw [arL_length]; kernel_rfl)
  show ((asAddr (.pointer (some ⟨q, 0, none⟩))).run Try.prog _).andThen _ = _
  simp [asAddr, hr]
set_option maxRecDepth 100000 in
set_option maxHeartbeats 4000000 in
theorem constants_any (w : World) : Calls Try.prog 103 #[] w fun e w' => e = .returned (.agg (arL .u64 80 kayF).toArray) ∧ Below w.heap.size w w' := by
  have hB := (Below.refl w.heap.size w).alloc (Nat.le_refl _) (.cells Try.zeroCells165 165)
  have a0 := arA_new (k := .u64) (n := 80) (f := fun _ => 0) w 165
  rw [← zero80] at a0
  obtain ⟨w1, hw1⟩ : ∃ x, w.alloc (.cells Try.zeroCells165 165) = x := ⟨_, rfl⟩
  obtain ⟨q, hq⟩ : ∃ x, w.heap.size = x := ⟨_, rfl⟩
  rw [hw1] at a0 hB
  have HQ := Lib.hid (show w.heap.size ≤ q by omega)
  have HA := Lib.hid (show ArA .u64 80 w1 q 0 (fun _ => 0) by rw [← hq]; exact a0)
  have HB := Lib.hid hB
  have HW := Lib.hid hw1
  have HQE := Lib.hid hq
  have HL := Lib.hid kay_lit
  clear a0 hB hw1 hq
  go_enter Try.func103, Try.ntmps103
  go_upto_region 1 with (fail)
  rw [HW.out, HQE.out]
  clear HW HQE
  iterate 2 go_step
  refine wp_build 165 kayB rfl (by rw [kay_built]; rfl) ?_
  rw [kay_built]
  simp only [Option.getD_some]
  go_step
  refine wpList_store_mid rfl 165 (.tmp 0) (.tmp 1) rfl _ _ (arL .u64 80 kayF).toArray rfl rfl (by rw [List.size_toArray, arL_length]; exact HA.out.there) (by rw [List.size_toArray, arL_length]; kernel_rfl) arL_one ?_
  clear HL
  iterate 5 go_step
  refine bodyPost_ret (v := .agg (arL .u64 80 kayF).toArray) ?_ rfl ⟨rfl, shb_setCells HB.out HQ.out _ _⟩
  rw [results_cell1 Try.results103]
  have hr := run_loadVar_mid (P := Try.prog) (w1.setCells q 0 (arL .u64 80 kayF)) q 0 165 (arL .u64 80 kayF) _ (arA_stored HA.out).range Try.underlying165 rfl (by rw [arL_length]; kernel_rfl)
  show ((asAddr (.pointer (some ⟨q, 0, none⟩))).run Try.prog _).andThen _ = _
  simp [asAddr, hr]
end Go.Proofs.Ytocfphijheidbaa
