/- Contracts: the sine. -/
import Derived.Test.YtpainjecdolgiaaPtS
import Derived.WalkMore
import Derived.LoopN
namespace Go.Proofs.Ytpainjecdolgiaa
open Go.RowKit Go.Flo
set_option linter.unusedSimpArgs false
set_option linter.unusedVariables false
theorem fz (x q : Nat) (hf : finV (kcv .f32 x) = true) (hq : kcv .f64 q = wide (kcv .f32 x)) : kcv .f64 (rteB q) = rteV (wide (kcv .f32 x)) := by
  rw [rteB_cv (wide_num hf hq), hq]
theorem fzq {x q : Nat} {b : Bool} (hf : finV (kcv .f32 x) = true) (hq : kcv .f64 q = wide (kcv .f32 x)) (hz : (vord FloatKind.f64.format (rteV (wide (kcv .f32 x))) (kcv .f64 0) == some Ordering.eq) = b) : (FloatKind.f64.format.order (rteB q) 0 != some Ordering.eq) = !b := by
  unfold bne; rw [← ord64, fz x q hf hq, hz]
theorem fi_28 : floatOfInt FloatKind.f64 28 = 4628574517030027264 := by kernel_rfl
theorem fi_812 : floatOfInt FloatKind.f64 812 = 4650353643353014272 := by kernel_rfl
theorem ca_14 : vop BinOp.add FloatKind.f64 (kcv FloatKind.f64 4628574517030027264) (kcv FloatKind.f64 4607182418800017408) = kcv FloatKind.f64 4628855992006737920 := by kernel_rfl
theorem cm_14 : vop BinOp.mul FloatKind.f64 (kcv FloatKind.f64 4628574517030027264) (kcv FloatKind.f64 4628855992006737920) = kcv FloatKind.f64 4650353643353014272 := by kernel_rfl
theorem fi_26 : floatOfInt FloatKind.f64 26 = 4628011567076605952 := by kernel_rfl
theorem fi_702 : floatOfInt FloatKind.f64 702 = 4649386073120571392 := by kernel_rfl
theorem ca_13 : vop BinOp.add FloatKind.f64 (kcv FloatKind.f64 4628011567076605952) (kcv FloatKind.f64 4607182418800017408) = kcv FloatKind.f64 4628293042053316608 := by kernel_rfl
theorem cm_13 : vop BinOp.mul FloatKind.f64 (kcv FloatKind.f64 4628011567076605952) (kcv FloatKind.f64 4628293042053316608) = kcv FloatKind.f64 4649386073120571392 := by kernel_rfl
theorem fi_24 : floatOfInt FloatKind.f64 24 = 4627448617123184640 := by kernel_rfl
theorem fi_600 : floatOfInt FloatKind.f64 600 = 4648488871632306176 := by kernel_rfl
theorem ca_12 : vop BinOp.add FloatKind.f64 (kcv FloatKind.f64 4627448617123184640) (kcv FloatKind.f64 4607182418800017408) = kcv FloatKind.f64 4627730092099895296 := by kernel_rfl
theorem cm_12 : vop BinOp.mul FloatKind.f64 (kcv FloatKind.f64 4627448617123184640) (kcv FloatKind.f64 4627730092099895296) = kcv FloatKind.f64 4648488871632306176 := by kernel_rfl
theorem fi_22 : floatOfInt FloatKind.f64 22 = 4626885667169763328 := by kernel_rfl
theorem fi_506 : floatOfInt FloatKind.f64 506 = 4647609262330085376 := by kernel_rfl
theorem ca_11 : vop BinOp.add FloatKind.f64 (kcv FloatKind.f64 4626885667169763328) (kcv FloatKind.f64 4607182418800017408) = kcv FloatKind.f64 4627167142146473984 := by kernel_rfl
theorem cm_11 : vop BinOp.mul FloatKind.f64 (kcv FloatKind.f64 4626885667169763328) (kcv FloatKind.f64 4627167142146473984) = kcv FloatKind.f64 4647609262330085376 := by kernel_rfl
theorem fi_20 : floatOfInt FloatKind.f64 20 = 4626322717216342016 := by kernel_rfl
theorem fi_420 : floatOfInt FloatKind.f64 420 = 4646096334330265600 := by kernel_rfl
theorem ca_10 : vop BinOp.add FloatKind.f64 (kcv FloatKind.f64 4626322717216342016) (kcv FloatKind.f64 4607182418800017408) = kcv FloatKind.f64 4626604192193052672 := by kernel_rfl
theorem cm_10 : vop BinOp.mul FloatKind.f64 (kcv FloatKind.f64 4626322717216342016) (kcv FloatKind.f64 4626604192193052672) = kcv FloatKind.f64 4646096334330265600 := by kernel_rfl
theorem fi_18 : floatOfInt FloatKind.f64 18 = 4625759767262920704 := by kernel_rfl
theorem fi_342 : floatOfInt FloatKind.f64 342 = 4644724143818801152 := by kernel_rfl
theorem ca_9 : vop BinOp.add FloatKind.f64 (kcv FloatKind.f64 4625759767262920704) (kcv FloatKind.f64 4607182418800017408) = kcv FloatKind.f64 4626041242239631360 := by kernel_rfl
theorem cm_9 : vop BinOp.mul FloatKind.f64 (kcv FloatKind.f64 4625759767262920704) (kcv FloatKind.f64 4626041242239631360) = kcv FloatKind.f64 4644724143818801152 := by kernel_rfl
theorem fi_16 : floatOfInt FloatKind.f64 16 = 4625196817309499392 := by kernel_rfl
theorem fi_272 : floatOfInt FloatKind.f64 272 = 4643492690795692032 := by kernel_rfl
theorem ca_8 : vop BinOp.add FloatKind.f64 (kcv FloatKind.f64 4625196817309499392) (kcv FloatKind.f64 4607182418800017408) = kcv FloatKind.f64 4625478292286210048 := by kernel_rfl
theorem cm_8 : vop BinOp.mul FloatKind.f64 (kcv FloatKind.f64 4625196817309499392) (kcv FloatKind.f64 4625478292286210048) = kcv FloatKind.f64 4643492690795692032 := by kernel_rfl
theorem fi_14 : floatOfInt FloatKind.f64 14 = 4624070917402656768 := by kernel_rfl
theorem fi_210 : floatOfInt FloatKind.f64 210 = 4641592734702895104 := by kernel_rfl
theorem ca_7 : vop BinOp.add FloatKind.f64 (kcv FloatKind.f64 4624070917402656768) (kcv FloatKind.f64 4607182418800017408) = kcv FloatKind.f64 4624633867356078080 := by kernel_rfl
theorem cm_7 : vop BinOp.mul FloatKind.f64 (kcv FloatKind.f64 4624070917402656768) (kcv FloatKind.f64 4624633867356078080) = kcv FloatKind.f64 4641592734702895104 := by kernel_rfl
theorem fi_12 : floatOfInt FloatKind.f64 12 = 4622945017495814144 := by kernel_rfl
theorem fi_156 : floatOfInt FloatKind.f64 156 = 4639692778610098176 := by kernel_rfl
theorem ca_6 : vop BinOp.add FloatKind.f64 (kcv FloatKind.f64 4622945017495814144) (kcv FloatKind.f64 4607182418800017408) = kcv FloatKind.f64 4623507967449235456 := by kernel_rfl
theorem cm_6 : vop BinOp.mul FloatKind.f64 (kcv FloatKind.f64 4622945017495814144) (kcv FloatKind.f64 4623507967449235456) = kcv FloatKind.f64 4639692778610098176 := by kernel_rfl
theorem fi_10 : floatOfInt FloatKind.f64 10 = 4621819117588971520 := by kernel_rfl
theorem fi_110 : floatOfInt FloatKind.f64 110 = 4637440978796412928 := by kernel_rfl
theorem ca_5 : vop BinOp.add FloatKind.f64 (kcv FloatKind.f64 4621819117588971520) (kcv FloatKind.f64 4607182418800017408) = kcv FloatKind.f64 4622382067542392832 := by kernel_rfl
theorem cm_5 : vop BinOp.mul FloatKind.f64 (kcv FloatKind.f64 4621819117588971520) (kcv FloatKind.f64 4622382067542392832) = kcv FloatKind.f64 4637440978796412928 := by kernel_rfl
theorem fi_8 : floatOfInt FloatKind.f64 8 = 4620693217682128896 := by kernel_rfl
theorem fi_72 : floatOfInt FloatKind.f64 72 = 4634766966517661696 := by kernel_rfl
theorem ca_4 : vop BinOp.add FloatKind.f64 (kcv FloatKind.f64 4620693217682128896) (kcv FloatKind.f64 4607182418800017408) = kcv FloatKind.f64 4621256167635550208 := by kernel_rfl
theorem cm_4 : vop BinOp.mul FloatKind.f64 (kcv FloatKind.f64 4620693217682128896) (kcv FloatKind.f64 4621256167635550208) = kcv FloatKind.f64 4634766966517661696 := by kernel_rfl
theorem fi_6 : floatOfInt FloatKind.f64 6 = 4618441417868443648 := by kernel_rfl
theorem fi_42 : floatOfInt FloatKind.f64 42 = 4631107791820423168 := by kernel_rfl
theorem ca_3 : vop BinOp.add FloatKind.f64 (kcv FloatKind.f64 4618441417868443648) (kcv FloatKind.f64 4607182418800017408) = kcv FloatKind.f64 4619567317775286272 := by kernel_rfl
theorem cm_3 : vop BinOp.mul FloatKind.f64 (kcv FloatKind.f64 4618441417868443648) (kcv FloatKind.f64 4619567317775286272) = kcv FloatKind.f64 4631107791820423168 := by kernel_rfl
theorem fi_4 : floatOfInt FloatKind.f64 4 = 4616189618054758400 := by kernel_rfl
theorem ca_2 : vop BinOp.add FloatKind.f64 (kcv FloatKind.f64 4616189618054758400) (kcv FloatKind.f64 4607182418800017408) = kcv FloatKind.f64 4617315517961601024 := by kernel_rfl
theorem cm_2 : vop BinOp.mul FloatKind.f64 (kcv FloatKind.f64 4616189618054758400) (kcv FloatKind.f64 4617315517961601024) = kcv FloatKind.f64 4626322717216342016 := by kernel_rfl
theorem fi_2 : floatOfInt FloatKind.f64 2 = 4611686018427387904 := by kernel_rfl
theorem ca_1 : vop BinOp.add FloatKind.f64 (kcv FloatKind.f64 4611686018427387904) (kcv FloatKind.f64 4607182418800017408) = kcv FloatKind.f64 4613937818241073152 := by kernel_rfl
theorem cm_1 : vop BinOp.mul FloatKind.f64 (kcv FloatKind.f64 4611686018427387904) (kcv FloatKind.f64 4613937818241073152) = kcv FloatKind.f64 4618441417868443648 := by kernel_rfl
--## end
end Go.Proofs.Ytpainjecdolgiaa
