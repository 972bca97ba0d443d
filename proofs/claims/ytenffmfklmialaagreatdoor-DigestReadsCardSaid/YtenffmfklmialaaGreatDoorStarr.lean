/- part -/
import Derived.Test.YtenffmfklmialaaGreatDoorBna
import Derived.Test.YtenffmfklmialaaGreatDoorRows
set_option linter.unusedVariables false
set_option linter.unusedSimpArgs false
set_option maxHeartbeats 8000000
namespace Go.Proofs.YtenffmfklmialaaGreatDoor
set_option maxRecDepth 20000
namespace Star
open Co
noncomputable section
def absB (f : Nat) : Bool := f == 19 || f == 22
def lawMask : Nat := 82848745455206072674021701792735568635108348147716000595605682392662008
def gB (g : Nat) : Bool := g == 0 || g == 4
noncomputable def prog : Program := starProg 29 311 312 absB Tryz.prog #[]
noncomputable def f6 : Func := { Tryz.f6 with body := some ((Code.region 0 #[⟨some 0, .assign (.const (.bool false)), 4, "law.go:14", #[], none⟩] false).seq ((Code.region 1 #[⟨some 6, .build 29 #[], 29, "law.go:15", #[], none⟩, ⟨some 7, .buildSlice 22 3 #[(0, .const (.int .u8 97)), (1, .const (.int .u8 98)), (2, .const (.int .u8 99))], 22, "law.go:15", #[], none⟩, ⟨some 8, .call ⟨.value (.func 313), #[(.tmp 7)], #[22]⟩, 22, "law.go:15", #[⟨1, .data⟩], none⟩, ⟨some 9, .call ⟨.value (.func 11), #[.const (.int .i64 11), .tmp 6, .tmp 8], #[3, 29, 22]⟩, 26, "law.go:15", #[⟨0, .data⟩, ⟨2, .data⟩], none⟩, ⟨some 5, .move (.tmp 9), 26, "law.go:15", #[⟨3, .data⟩], none⟩, ⟨some 10, .extract (.tmp 5) 0, 22, "law.go:15", #[⟨4, .data⟩], none⟩, ⟨some 11, .extract (.tmp 5) 1, 25, "law.go:15", #[⟨4, .data⟩, { on := 7, ground := Ground.gcOnly Departure.lateStores }], none⟩, ⟨some 1, .assign (.tmp 10), 22, "law.go:15", #[⟨5, .data⟩, ⟨3, .chain⟩, ⟨0, .phase⟩, ⟨1, .phase⟩, ⟨2, .phase⟩, ⟨3, .phase⟩, ⟨4, .phase⟩, ⟨5, .phase⟩, { on := 6, ground := Ground.textOnly Departure.lateStores }], none⟩, ⟨some 2, .assign (.tmp 11), 25, "law.go:15", #[⟨6, .data⟩, ⟨7, .chain⟩, ⟨0, .phase⟩, ⟨1, .phase⟩, ⟨2, .phase⟩, ⟨3, .phase⟩, ⟨4, .phase⟩, ⟨5, .phase⟩, ⟨6, .phase⟩, ⟨7, .phase⟩], none⟩] false).seq ((Code.region 2 #[⟨some 13, .build 29 #[], 29, "law.go:16", #[], none⟩, ⟨some 14, .buildSlice 22 3 #[(0, .const (.int .u8 97)), (1, .const (.int .u8 98)), (2, .const (.int .u8 99))], 22, "law.go:16", #[], none⟩, ⟨some 15, .call ⟨.value (.func 313), #[(.tmp 14)], #[22]⟩, 22, "law.go:16", #[⟨1, .data⟩], none⟩, ⟨some 16, .call ⟨.value (.func 7), #[.const (.int .i64 11), .tmp 13, .tmp 15, .const (.int .i64 32)], #[3, 29, 22, 3]⟩, 26, "law.go:16", #[⟨0, .data⟩, ⟨2, .data⟩], none⟩, ⟨some 12, .move (.tmp 16), 26, "law.go:16", #[⟨3, .data⟩], none⟩, ⟨some 17, .extract (.tmp 12) 0, 22, "law.go:16", #[⟨4, .data⟩], none⟩, ⟨some 18, .extract (.tmp 12) 1, 25, "law.go:16", #[⟨4, .data⟩, { on := 7, ground := Ground.gcOnly Departure.lateStores }], none⟩, ⟨some 3, .assign (.tmp 17), 22, "law.go:16", #[⟨5, .data⟩, ⟨3, .chain⟩, ⟨0, .phase⟩, ⟨1, .phase⟩, ⟨2, .phase⟩, ⟨3, .phase⟩, ⟨4, .phase⟩, ⟨5, .phase⟩, { on := 6, ground := Ground.textOnly Departure.lateStores }], none⟩, ⟨some 4, .assign (.tmp 18), 25, "law.go:16", #[⟨6, .data⟩, ⟨7, .chain⟩, ⟨0, .phase⟩, ⟨1, .phase⟩, ⟨2, .phase⟩, ⟨3, .phase⟩, ⟨4, .phase⟩, ⟨5, .phase⟩, ⟨6, .phase⟩, ⟨7, .phase⟩], none⟩] false).seq ((Code.region 3 #[⟨some 19, .move (.tmp 2), 25, "law.go:17", #[], none⟩, ⟨some 20, .binOp .eql 25 (.tmp 19) (.const (.int .i64 0)) 25, 4, "law.go:17", #[⟨0, .data⟩], none⟩, ⟨some 21, .move (.tmp 20), 4, "law.go:17", #[⟨1, .data⟩], none⟩, ⟨some 22, .move (.tmp 4), 25, "law.go:17", #[⟨2, .guard⟩], some (2, true)⟩, ⟨some 23, .binOp .eql 25 (.tmp 22) (.const (.int .i64 0)) 25, 4, "law.go:17", #[⟨3, .data⟩, ⟨2, .guard⟩], some (2, true)⟩, ⟨some 24, .pick (.tmp 21) (.tmp 23) (.const (.bool false)), 4, "law.go:17", #[⟨2, .data⟩, ⟨4, .data⟩], none⟩, ⟨some 25, .move (.tmp 24), 4, "law.go:17", #[⟨5, .data⟩, ⟨2, .chain⟩], none⟩, ⟨some 26, .move (.tmp 1), 22, "law.go:17", #[⟨6, .guard⟩], some (6, true)⟩, ⟨some 27, .call ⟨.builtin .len, #[.tmp 26], #[22]⟩, 3, "law.go:17", #[⟨7, .data⟩, ⟨6, .guard⟩], some (6, true)⟩, ⟨some 28, .binOp .eql 3 (.tmp 27) (.const (.int .i64 32)) 3, 4, "law.go:17", #[⟨8, .data⟩, ⟨6, .guard⟩], some (6, true)⟩, ⟨some 29, .pick (.tmp 25) (.tmp 28) (.const (.bool false)), 4, "law.go:17", #[⟨6, .data⟩, ⟨9, .data⟩], none⟩, ⟨some 30, .move (.tmp 29), 4, "law.go:17", #[⟨10, .data⟩, ⟨6, .chain⟩], none⟩, ⟨some 31, .move (.tmp 1), 22, "law.go:17", #[⟨11, .guard⟩], some (11, true)⟩, ⟨some 32, .move (.tmp 3), 22, "law.go:17", #[⟨11, .guard⟩], some (11, true)⟩, ⟨some 33, .call ⟨.value (.func 8), #[.tmp 31, .tmp 32], #[22, 22]⟩, 4, "law.go:17", #[⟨12, .data⟩, ⟨13, .data⟩, ⟨11, .chain⟩, ⟨11, .guard⟩], some (11, true)⟩, ⟨some 34, .pick (.tmp 30) (.tmp 33) (.const (.bool false)), 4, "law.go:17", #[⟨11, .data⟩, ⟨14, .data⟩], none⟩, ⟨some 0, .assign (.tmp 34), 4, "law.go:17", #[⟨15, .data⟩, ⟨14, .chain⟩, ⟨0, .phase⟩, ⟨1, .phase⟩, ⟨2, .phase⟩, ⟨3, .phase⟩, ⟨4, .phase⟩, ⟨5, .phase⟩, ⟨6, .phase⟩, ⟨7, .phase⟩, ⟨8, .phase⟩, ⟨9, .phase⟩, ⟨10, .phase⟩, ⟨11, .phase⟩, ⟨12, .phase⟩, ⟨13, .phase⟩, ⟨14, .phase⟩, ⟨15, .phase⟩], none⟩] false).seq Code.ret)))) }
noncomputable def f11 : Func := { Tryz.f11 with body := some ((Code.region 0 #[⟨some 4, .box 29 (.tmp 1), 0, "digest.go:17", #[], none⟩, ⟨some 6, .assign (.const (.slice none 0 0)), 22, "digest.go:17", #[], none⟩, ⟨some 7, .assign (.const (.int .i64 0)), 25, "digest.go:17", #[⟨1, .chain⟩], none⟩] false).seq (((Code.region 1 #[⟨some 9, .move (.tmp 0), 3, "digest.go:18", #[], none⟩, ⟨some 10, .load 29 (.tmp 4), 29, "digest.go:18", #[], none⟩, ⟨some 11, .call ⟨.value (.func 15), #[.tmp 9, .tmp 10], #[3, 29]⟩, 25, "digest.go:18", #[⟨0, .data⟩, ⟨1, .data⟩], none⟩, ⟨some 8, .assign (.tmp 11), 25, "digest.go:18", #[⟨2, .data⟩, ⟨2, .chain⟩, ⟨0, .phase⟩, ⟨1, .phase⟩, ⟨2, .phase⟩], none⟩] false).seq ((Code.region 2 #[⟨some 12, .move (.tmp 8), 25, "digest.go:18", #[], none⟩, ⟨some 13, .binOp .neq 25 (.tmp 12) (.const (.int .i64 0)) 25, 4, "digest.go:18", #[⟨0, .data⟩], none⟩] false).seq (Code.cond (.tmp 13) ((Code.region 3 #[⟨some 14, .move (.tmp 8), 25, "digest.go:19", #[{ on := 1, ground := Ground.gcOnly Departure.lateStores }], none⟩, ⟨some 6, .assign (.const (.slice none 0 0)), 22, "digest.go:19", #[{ on := 0, ground := Ground.textOnly Departure.lateStores }], none⟩, ⟨some 7, .assign (.tmp 14), 25, "digest.go:19", #[⟨0, .data⟩, ⟨1, .chain⟩, ⟨0, .phase⟩, ⟨1, .phase⟩], none⟩] false).seq Code.ret) Code.skip))).seq (((Code.region 4 #[⟨some 15, .move (.tmp 0), 3, "digest.go:21", #[], none⟩, ⟨some 16, .call ⟨.value (.func 18), #[.tmp 15], #[3]⟩, 3, "digest.go:21", #[⟨0, .data⟩], none⟩, ⟨some 17, .binOp .eql 3 (.tmp 16) (.const (.int .i64 1)) 3, 4, "digest.go:21", #[⟨1, .data⟩], none⟩] false).seq (Code.cond (.tmp 17) ((Code.region 5 #[⟨some 18, .move (.tmp 0), 3, "digest.go:22", #[], none⟩, ⟨some 19, .move (.tmp 2), 22, "digest.go:22", #[], none⟩, ⟨some 20, tagOp 5, 26, "digest.go:22", #[⟨0, .data⟩, ⟨1, .data⟩], none⟩, ⟨some 21, .extract (.tmp 20) 0, 22, "digest.go:22", #[⟨2, .data⟩], none⟩, ⟨some 22, .extract (.tmp 20) 1, 25, "digest.go:22", #[⟨2, .data⟩], none⟩, ⟨some 6, .assign (.tmp 21), 22, "digest.go:22", #[⟨3, .data⟩, ⟨2, .chain⟩, ⟨0, .phase⟩, ⟨1, .phase⟩, ⟨2, .phase⟩, ⟨3, .phase⟩, ⟨4, .phase⟩], none⟩, ⟨some 7, .assign (.tmp 22), 25, "digest.go:22", #[⟨4, .data⟩, ⟨5, .chain⟩, ⟨0, .phase⟩, ⟨1, .phase⟩, ⟨2, .phase⟩, ⟨3, .phase⟩, ⟨4, .phase⟩, ⟨5, .phase⟩], none⟩] false).seq Code.ret) Code.skip)).seq ((Code.region 6 #[⟨some 23, .move (.tmp 0), 3, "digest.go:24", #[], none⟩, ⟨some 24, .load 29 (.tmp 4), 29, "digest.go:24", #[], none⟩, ⟨some 25, .move (.tmp 2), 22, "digest.go:24", #[], none⟩, ⟨some 26, .move (.tmp 0), 3, "digest.go:24", #[], none⟩, ⟨some 27, .call ⟨.value (.func 20), #[.tmp 26], #[3]⟩, 3, "digest.go:24", #[⟨3, .data⟩], none⟩, ⟨some 28, .call ⟨.value (.func 17), #[.tmp 23, .tmp 24, .tmp 25, .tmp 27], #[3, 29, 22, 3]⟩, 26, "digest.go:24", #[⟨0, .data⟩, ⟨1, .data⟩, ⟨2, .data⟩, ⟨4, .data⟩, ⟨4, .chain⟩], none⟩, ⟨some 29, .extract (.tmp 28) 0, 22, "digest.go:24", #[⟨5, .data⟩], none⟩, ⟨some 30, .extract (.tmp 28) 1, 25, "digest.go:24", #[⟨5, .data⟩], none⟩, ⟨some 6, .assign (.tmp 29), 22, "digest.go:24", #[⟨6, .data⟩, ⟨5, .chain⟩, ⟨0, .phase⟩, ⟨1, .phase⟩, ⟨2, .phase⟩, ⟨3, .phase⟩, ⟨4, .phase⟩, ⟨5, .phase⟩, ⟨6, .phase⟩, ⟨7, .phase⟩], none⟩, ⟨some 7, .assign (.tmp 30), 25, "digest.go:24", #[⟨7, .data⟩, ⟨8, .chain⟩, ⟨0, .phase⟩, ⟨1, .phase⟩, ⟨2, .phase⟩, ⟨3, .phase⟩, ⟨4, .phase⟩, ⟨5, .phase⟩, ⟨6, .phase⟩, ⟨7, .phase⟩, ⟨8, .phase⟩], none⟩] true).seq Code.ret)))) }
noncomputable def f12 : Func := { Tryz.f12 with body := some ((Code.region 0 #[⟨some 4, .box 29 (.tmp 1), 0, "ref.go:49", #[], none⟩, ⟨some 6, .assign (.const (.slice none 0 0)), 22, "ref.go:49", #[], none⟩] false).seq (((Code.region 1 #[⟨some 7, .move (.tmp 0), 3, "ref.go:50", #[], none⟩, ⟨some 8, .call ⟨.value (.func 21), #[.tmp 7], #[3]⟩, 3, "ref.go:50", #[⟨0, .data⟩], none⟩, ⟨some 9, .binOp .eql 3 (.tmp 8) (.const (.int .i64 1)) 3, 4, "ref.go:50", #[⟨1, .data⟩], none⟩] false).seq (Code.cond (.tmp 9) ((Code.region 2 #[⟨some 10, .move (.tmp 0), 3, "ref.go:51", #[], none⟩, ⟨some 11, .move (.tmp 2), 22, "ref.go:51", #[], none⟩, ⟨some 12, tagOp 5, 22, "ref.go:51", #[⟨0, .data⟩, ⟨1, .data⟩], none⟩, ⟨some 6, .assign (.tmp 12), 22, "ref.go:51", #[⟨2, .data⟩, ⟨2, .chain⟩, ⟨0, .phase⟩, ⟨1, .phase⟩, ⟨2, .phase⟩], none⟩] false).seq Code.ret) Code.skip)).seq ((Code.region 3 #[⟨some 13, .move (.tmp 0), 3, "ref.go:53", #[], none⟩, ⟨some 14, .load 29 (.tmp 4), 29, "ref.go:53", #[], none⟩, ⟨some 15, .move (.tmp 2), 22, "ref.go:53", #[], none⟩, ⟨some 16, .move (.tmp 0), 3, "ref.go:53", #[], none⟩, ⟨some 17, .call ⟨.value (.func 24), #[.tmp 16], #[3]⟩, 3, "ref.go:53", #[⟨3, .data⟩], none⟩, ⟨some 18, .call ⟨.value (.func 23), #[.tmp 13, .tmp 14, .tmp 15, .tmp 17], #[3, 29, 22, 3]⟩, 22, "ref.go:53", #[⟨0, .data⟩, ⟨1, .data⟩, ⟨2, .data⟩, ⟨4, .data⟩, ⟨4, .chain⟩], none⟩, ⟨some 6, .assign (.tmp 18), 22, "ref.go:53", #[⟨5, .data⟩, ⟨5, .chain⟩, ⟨0, .phase⟩, ⟨1, .phase⟩, ⟨2, .phase⟩, ⟨3, .phase⟩, ⟨4, .phase⟩, ⟨5, .phase⟩], none⟩] true).seq Code.ret))) }
noncomputable def f17 : Func := { Tryz.f17 with body := some ((Code.region 0 #[⟨some 5, .box 29 (.tmp 1), 0, "digest.go:64", #[], none⟩, ⟨some 8, .assign (.const (.slice none 0 0)), 22, "digest.go:64", #[], none⟩, ⟨some 9, .assign (.const (.int .i64 0)), 25, "digest.go:64", #[⟨1, .chain⟩], none⟩] false).seq ((Code.region 1 #[⟨some 13, .move (.tmp 0), 3, "digest.go:65", #[], none⟩, ⟨some 14, .load 29 (.tmp 5), 29, "digest.go:65", #[], none⟩, ⟨some 15, .call ⟨.value (.func 28), #[.tmp 13, .tmp 14], #[3, 29]⟩, 49, "digest.go:65", #[⟨0, .data⟩, ⟨1, .data⟩], none⟩, ⟨some 12, .move (.tmp 15), 49, "digest.go:65", #[⟨2, .data⟩], none⟩, ⟨some 16, .extract (.tmp 12) 0, 48, "digest.go:65", #[⟨3, .data⟩], none⟩, ⟨some 17, .extract (.tmp 12) 1, 25, "digest.go:65", #[⟨3, .data⟩, { on := 6, ground := Ground.gcOnly Departure.lateStores }], none⟩, ⟨some 10, .assign (.tmp 16), 48, "digest.go:65", #[⟨4, .data⟩, ⟨2, .chain⟩, ⟨0, .phase⟩, ⟨1, .phase⟩, ⟨2, .phase⟩, ⟨3, .phase⟩, ⟨4, .phase⟩, { on := 5, ground := Ground.textOnly Departure.lateStores }], none⟩, ⟨some 11, .assign (.tmp 17), 25, "digest.go:65", #[⟨5, .data⟩, ⟨6, .chain⟩, ⟨0, .phase⟩, ⟨1, .phase⟩, ⟨2, .phase⟩, ⟨3, .phase⟩, ⟨4, .phase⟩, ⟨5, .phase⟩, ⟨6, .phase⟩], none⟩] false).seq (((Code.region 2 #[⟨some 18, .move (.tmp 11), 25, "digest.go:66", #[], none⟩, ⟨some 19, .binOp .neq 25 (.tmp 18) (.const (.int .i64 0)) 25, 4, "digest.go:66", #[⟨0, .data⟩], none⟩] false).seq (Code.cond (.tmp 19) ((Code.region 3 #[⟨some 20, .move (.tmp 11), 25, "digest.go:67", #[{ on := 1, ground := Ground.gcOnly Departure.lateStores }], none⟩, ⟨some 8, .assign (.const (.slice none 0 0)), 22, "digest.go:67", #[{ on := 0, ground := Ground.textOnly Departure.lateStores }], none⟩, ⟨some 9, .assign (.tmp 20), 25, "digest.go:67", #[⟨0, .data⟩, ⟨1, .chain⟩, ⟨0, .phase⟩, ⟨1, .phase⟩], none⟩] false).seq Code.ret) Code.skip)).seq ((Code.region 4 #[⟨some 21, .move (.tmp 10), 48, "digest.go:69", #[], none⟩, ⟨some 22, .move (.tmp 2), 22, "digest.go:69", #[], none⟩, ⟨some 23, .call ⟨.value (.func 311), #[.tmp 21, .tmp 22], #[48, 22]⟩, 51, "digest.go:69", #[⟨0, .data⟩, ⟨1, .data⟩], none⟩] false).seq ((Code.region 5 #[⟨some 24, .move (.tmp 10), 48, "digest.go:70", #[], none⟩, ⟨some 25, .move (.tmp 3), 3, "digest.go:70", #[], none⟩, ⟨some 26, .call ⟨.value (.func 30), #[.tmp 24, .tmp 25], #[48, 3]⟩, 26, "digest.go:70", #[⟨0, .data⟩, ⟨1, .data⟩], none⟩, ⟨some 27, .extract (.tmp 26) 0, 22, "digest.go:70", #[⟨2, .data⟩], none⟩, ⟨some 28, .extract (.tmp 26) 1, 25, "digest.go:70", #[⟨2, .data⟩], none⟩, ⟨some 8, .assign (.tmp 27), 22, "digest.go:70", #[⟨3, .data⟩, ⟨2, .chain⟩, ⟨0, .phase⟩, ⟨1, .phase⟩, ⟨2, .phase⟩, ⟨3, .phase⟩, ⟨4, .phase⟩], none⟩, ⟨some 9, .assign (.tmp 28), 25, "digest.go:70", #[⟨4, .data⟩, ⟨5, .chain⟩, ⟨0, .phase⟩, ⟨1, .phase⟩, ⟨2, .phase⟩, ⟨3, .phase⟩, ⟨4, .phase⟩, ⟨5, .phase⟩], none⟩] false).seq Code.ret))))) }
noncomputable def f52 : Func := { Tryz.f52 with body := some ((Code.region 0 #[⟨some 3, .box 29 (.tmp 1), 0, "custom.go:26", #[], none⟩, ⟨some 4, .assign (.const (.pointer none)), 48, "custom.go:26", #[], none⟩, ⟨some 5, .assign (.const (.int .i64 0)), 25, "custom.go:26", #[⟨1, .chain⟩], none⟩] false).seq ((Code.region 1 #[⟨some 13, .call ⟨.value (.func 76), #[], #[]⟩, 118, "custom.go:27", #[], none⟩, ⟨some 14, .move (.tmp 0), 3, "custom.go:27", #[], none⟩, ⟨some 15, .lookup 118 (.tmp 13) (.tmp 14) true, 117, "custom.go:27", #[⟨0, .data⟩, ⟨1, .data⟩], none⟩, ⟨some 12, .move (.tmp 15), 117, "custom.go:27", #[⟨2, .data⟩], none⟩, ⟨some 16, .extract (.tmp 12) 0, 3, "custom.go:27", #[⟨3, .data⟩], none⟩, ⟨some 17, .extract (.tmp 12) 1, 4, "custom.go:27", #[⟨3, .data⟩, { on := 6, ground := Ground.gcOnly Departure.lateStores }], none⟩, ⟨some 6, .assign (.tmp 16), 3, "custom.go:27", #[⟨4, .data⟩, ⟨0, .chain⟩, ⟨0, .phase⟩, ⟨1, .phase⟩, ⟨2, .phase⟩, ⟨3, .phase⟩, ⟨4, .phase⟩, { on := 5, ground := Ground.textOnly Departure.lateStores }], none⟩, ⟨some 7, .assign (.tmp 17), 4, "custom.go:27", #[⟨5, .data⟩, ⟨6, .chain⟩, ⟨0, .phase⟩, ⟨1, .phase⟩, ⟨2, .phase⟩, ⟨3, .phase⟩, ⟨4, .phase⟩, ⟨5, .phase⟩, ⟨6, .phase⟩], none⟩] false).seq (((Code.region 2 #[⟨some 18, .move (.tmp 7), 4, "custom.go:28", #[], none⟩, ⟨some 19, .unOp .not 4 (.tmp 18), 4, "custom.go:28", #[⟨0, .data⟩], none⟩] false).seq (Code.cond (.tmp 19) ((Code.region 3 #[⟨some 4, .assign (.const (.pointer none)), 48, "custom.go:29", #[], none⟩, ⟨some 5, .assign (.const (.int .i64 3)), 25, "custom.go:29", #[⟨0, .chain⟩, ⟨0, .phase⟩], none⟩] false).seq Code.ret) Code.skip)).seq (((Code.region 4 #[⟨some 20, .load 29 (.tmp 3), 29, "custom.go:31", #[], none⟩, ⟨some 21, .call ⟨.value (.func 26), #[.tmp 20], #[29]⟩, 4, "custom.go:31", #[⟨0, .data⟩], none⟩, ⟨some 22, .unOp .not 4 (.tmp 21), 4, "custom.go:31", #[⟨1, .data⟩], none⟩] false).seq (Code.cond (.tmp 22) ((Code.region 5 #[⟨some 4, .assign (.const (.pointer none)), 48, "custom.go:32", #[], none⟩, ⟨some 5, .assign (.const (.int .i64 1)), 25, "custom.go:32", #[⟨0, .chain⟩, ⟨0, .phase⟩], none⟩] false).seq Code.ret) Code.skip)).seq ((Code.region 6 #[⟨some 24, .move (.tmp 6), 3, "custom.go:34", #[], none⟩, ⟨some 25, .load 29 (.tmp 3), 29, "custom.go:34", #[], none⟩, ⟨some 26, .call ⟨.value (.func 77), #[.tmp 25], #[29]⟩, 3, "custom.go:34", #[⟨1, .data⟩], none⟩, ⟨some 27, .call ⟨.value (.func 50), #[.tmp 24, .tmp 26], #[3, 3]⟩, 49, "custom.go:34", #[⟨0, .data⟩, ⟨2, .data⟩, ⟨2, .chain⟩], none⟩, ⟨some 23, .move (.tmp 27), 49, "custom.go:34", #[⟨3, .data⟩], none⟩, ⟨some 28, .extract (.tmp 23) 0, 48, "custom.go:34", #[⟨4, .data⟩], none⟩, ⟨some 29, .extract (.tmp 23) 1, 25, "custom.go:34", #[⟨4, .data⟩, { on := 7, ground := Ground.gcOnly Departure.lateStores }], none⟩, ⟨some 8, .assign (.tmp 28), 48, "custom.go:34", #[⟨5, .data⟩, ⟨3, .chain⟩, ⟨0, .phase⟩, ⟨1, .phase⟩, ⟨2, .phase⟩, ⟨3, .phase⟩, ⟨4, .phase⟩, ⟨5, .phase⟩, { on := 6, ground := Ground.textOnly Departure.lateStores }], none⟩, ⟨some 9, .assign (.tmp 29), 25, "custom.go:34", #[⟨6, .data⟩, ⟨7, .chain⟩, ⟨0, .phase⟩, ⟨1, .phase⟩, ⟨2, .phase⟩, ⟨3, .phase⟩, ⟨4, .phase⟩, ⟨5, .phase⟩, ⟨6, .phase⟩, ⟨7, .phase⟩], none⟩] false).seq (((Code.region 7 #[⟨some 31, .move (.tmp 6), 3, "custom.go:35", #[], none⟩, ⟨some 32, .load 29 (.tmp 3), 29, "custom.go:35", #[], none⟩, ⟨some 33, .call ⟨.value (.func 78), #[.tmp 31, .tmp 32], #[3, 29]⟩, 61, "custom.go:35", #[⟨0, .data⟩, ⟨1, .data⟩], none⟩, ⟨some 30, .move (.tmp 33), 61, "custom.go:35", #[⟨2, .data⟩], none⟩, ⟨some 34, .extract (.tmp 30) 0, 22, "custom.go:35", #[⟨3, .data⟩], none⟩, ⟨some 35, .extract (.tmp 30) 1, 4, "custom.go:35", #[⟨3, .data⟩, { on := 6, ground := Ground.gcOnly Departure.lateStores }], none⟩, ⟨some 10, .assign (.tmp 34), 22, "custom.go:35", #[⟨4, .data⟩, ⟨2, .chain⟩, ⟨0, .phase⟩, ⟨1, .phase⟩, ⟨2, .phase⟩, ⟨3, .phase⟩, ⟨4, .phase⟩, { on := 5, ground := Ground.textOnly Departure.lateStores }], none⟩, ⟨some 11, .assign (.tmp 35), 4, "custom.go:35", #[⟨5, .data⟩, ⟨6, .chain⟩, ⟨0, .phase⟩, ⟨1, .phase⟩, ⟨2, .phase⟩, ⟨3, .phase⟩, ⟨4, .phase⟩, ⟨5, .phase⟩, ⟨6, .phase⟩], none⟩] false).seq ((Code.region 8 #[⟨some 36, .move (.tmp 11), 4, "custom.go:35", #[], none⟩] false).seq (Code.cond (.tmp 36) (Code.region 9 #[⟨some 37, .move (.tmp 8), 48, "custom.go:36", #[], none⟩, ⟨some 38, .move (.tmp 10), 22, "custom.go:36", #[], none⟩, ⟨some 39, .call ⟨.value (.func 311), #[.tmp 37, .tmp 38], #[48, 22]⟩, 51, "custom.go:36", #[⟨0, .data⟩, ⟨1, .data⟩], none⟩] false) Code.skip))).seq ((Code.region 10 #[⟨some 40, .move (.tmp 8), 48, "custom.go:38", #[], none⟩, ⟨some 41, .move (.tmp 9), 25, "custom.go:38", #[{ on := 2, ground := Ground.gcOnly Departure.lateStores }], none⟩, ⟨some 4, .assign (.tmp 40), 48, "custom.go:38", #[⟨0, .data⟩, ⟨0, .phase⟩, { on := 1, ground := Ground.textOnly Departure.lateStores }], none⟩, ⟨some 5, .assign (.tmp 41), 25, "custom.go:38", #[⟨1, .data⟩, ⟨2, .chain⟩, ⟨0, .phase⟩, ⟨1, .phase⟩, ⟨2, .phase⟩], none⟩] false).seq Code.ret))))))) }
noncomputable def f86 : Func := { Tryz.f86 with body := some ((Code.region 0 #[⟨some 2, .assign (.const (.slice none 0 0)), 22, "slices.go:491", #[], none⟩] false).seq ((Code.region 1 #[⟨some 3, .assign (.const (.int .i64 0)), 3, "slices.go:492", #[], none⟩] false).seq (((Code.region 2 #[⟨some 9, .move (.tmp 0), 132, "slices.go:493", #[], none⟩, ⟨some 10, .call ⟨.builtin .len, #[.tmp 9], #[132]⟩, 3, "slices.go:493", #[⟨0, .data⟩], none⟩, ⟨some 11, .move (.const (.int .i64 0)), 3, "slices.go:493", #[], none⟩] false).seq (Code.block 0 ((Code.region 3 #[⟨some 12, .binOp .lss 3 (.tmp 11) (.tmp 10) 3, 0, "slices.go:493", #[], none⟩] false).seq ((Code.cond (.tmp 12) Code.skip (Code.exit 0)).seq ((Code.block 1 ((Code.region 4 #[⟨some 13, .indexAddr 132 (.tmp 9) (.tmp 11), 0, "slices.go:493", #[], none⟩, ⟨some 14, .load 22 (.tmp 13), 22, "slices.go:493", #[⟨0, .data⟩], none⟩, ⟨some 5, .assign (.tmp 14), 22, "slices.go:493", #[⟨1, .data⟩, ⟨0, .phase⟩, ⟨1, .phase⟩], none⟩] false).seq ((Code.region 5 #[⟨some 15, .move (.tmp 3), 3, "slices.go:494", #[], none⟩, ⟨some 16, .move (.tmp 5), 22, "slices.go:494", #[], none⟩, ⟨some 17, .call ⟨.builtin .len, #[.tmp 16], #[22]⟩, 3, "slices.go:494", #[⟨1, .data⟩], none⟩, ⟨some 18, .binOp .add 3 (.tmp 15) (.tmp 17) 3, 3, "slices.go:494", #[⟨0, .data⟩, ⟨2, .data⟩], none⟩, ⟨some 3, .assign (.tmp 18), 3, "slices.go:494", #[⟨3, .data⟩, ⟨0, .phase⟩, ⟨1, .phase⟩, ⟨2, .phase⟩, ⟨3, .phase⟩], none⟩] false).seq ((Code.region 6 #[⟨some 19, .move (.tmp 3), 3, "slices.go:495", #[], none⟩, ⟨some 20, .binOp .lss 3 (.tmp 19) (.const (.int .i64 0)) 3, 4, "slices.go:495", #[⟨0, .data⟩], none⟩] false).seq (Code.cond (.tmp 20) (Code.region 7 #[⟨some 21, .makeInterface 9 (.const (.string { data := #[108, 101, 110, 32, 111, 117, 116, 32, 111, 102, 32, 114, 97, 110, 103, 101] })), 20, "slices.go:496", #[], none⟩, ⟨none, tagOp 4, 0, "slices.go:496", #[⟨0, .data⟩], none⟩] false) Code.skip))))).seq (Code.region 8 #[⟨some 22, .binOp .add 3 (.tmp 11) (.const (.int .i64 1)) 3, 3, "slices.go:493", #[], none⟩, ⟨some 11, .move (.tmp 22), 3, "slices.go:493", #[⟨0, .data⟩], none⟩] false)))).loop)).seq ((Code.region 9 #[⟨some 23, .move (.tmp 3), 3, "slices.go:502", #[], none⟩, ⟨some 24, .call ⟨.value (.func 121), #[.const (.slice none 0 0), .tmp 23], #[22, 3]⟩, 22, "slices.go:502", #[⟨0, .data⟩], none⟩, ⟨some 6, .assign (.tmp 24), 22, "slices.go:502", #[⟨1, .data⟩, ⟨1, .chain⟩, ⟨0, .phase⟩, ⟨1, .phase⟩], none⟩] false).seq (((Code.region 10 #[⟨some 25, .move (.tmp 0), 132, "slices.go:503", #[], none⟩, ⟨some 26, .call ⟨.builtin .len, #[.tmp 25], #[132]⟩, 3, "slices.go:503", #[⟨0, .data⟩], none⟩, ⟨some 27, .move (.const (.int .i64 0)), 3, "slices.go:503", #[], none⟩] false).seq (Code.block 2 ((Code.region 11 #[⟨some 28, .binOp .lss 3 (.tmp 27) (.tmp 26) 3, 0, "slices.go:503", #[], none⟩] false).seq ((Code.cond (.tmp 28) Code.skip (Code.exit 2)).seq ((Code.block 3 ((Code.region 12 #[⟨some 29, .indexAddr 132 (.tmp 25) (.tmp 27), 0, "slices.go:503", #[], none⟩, ⟨some 30, .load 22 (.tmp 29), 22, "slices.go:503", #[⟨0, .data⟩], none⟩, ⟨some 8, .assign (.tmp 30), 22, "slices.go:503", #[⟨1, .data⟩, ⟨0, .phase⟩, ⟨1, .phase⟩], none⟩] false).seq (Code.region 13 #[⟨some 31, .move (.tmp 6), 22, "slices.go:504", #[], none⟩, ⟨some 32, .move (.tmp 8), 22, "slices.go:504", #[], none⟩, ⟨some 33, .call ⟨.builtin .append, #[.tmp 31, .tmp 32], #[22, 22]⟩, 22, "slices.go:504", #[⟨0, .data⟩, ⟨1, .data⟩], none⟩, ⟨some 6, .assign (.tmp 33), 22, "slices.go:504", #[⟨2, .data⟩, ⟨2, .chain⟩, ⟨0, .phase⟩, ⟨1, .phase⟩, ⟨2, .phase⟩], none⟩] false))).seq (Code.region 14 #[⟨some 34, .binOp .add 3 (.tmp 27) (.const (.int .i64 1)) 3, 3, "slices.go:503", #[], none⟩, ⟨some 27, .move (.tmp 34), 3, "slices.go:503", #[⟨0, .data⟩], none⟩] false)))).loop)).seq ((Code.region 15 #[⟨some 35, .move (.tmp 6), 22, "slices.go:506", #[], none⟩, ⟨some 2, .assign (.tmp 35), 22, "slices.go:506", #[⟨0, .data⟩, ⟨0, .phase⟩], none⟩] false).seq Code.ret)))))) }
noncomputable def f120 : Func := { Tryz.f120 with body := some ((Code.region 0 #[⟨some 2, .box 22 (.tmp 0), 0, "iter.go:97", #[], none⟩, ⟨some 3, .box 3 (.tmp 1), 0, "iter.go:97", #[], none⟩, ⟨some 4, .assign (.const .nilFunc), 165, "iter.go:97", #[], none⟩] false).seq (((Code.region 1 #[⟨some 5, .load 3 (.tmp 3), 3, "iter.go:98", #[], none⟩, ⟨some 6, .binOp .lss 3 (.tmp 5) (.const (.int .i64 1)) 3, 4, "iter.go:98", #[⟨0, .data⟩], none⟩] false).seq (Code.cond (.tmp 6) (Code.region 2 #[⟨some 7, .makeInterface 9 (.const (.string { data := #[99, 97, 110, 110, 111, 116, 32, 98, 101, 32, 108, 101, 115, 115, 32, 116, 104, 97, 110, 32, 49] })), 20, "iter.go:99", #[], none⟩, ⟨none, tagOp 4, 0, "iter.go:99", #[⟨0, .data⟩], none⟩] false) Code.skip)).seq ((Code.region 3 #[⟨some 8, .makeFunc (Fn.func 147) #[] #[.tmp 2, .tmp 3], 164, "iter.go:102", #[], none⟩, ⟨some 4, .assign (.tmp 8), 165, "iter.go:102", #[⟨0, .data⟩, ⟨0, .phase⟩], none⟩] false).seq Code.ret))) }
noncomputable def f121 : Func := { Tryz.f121 with body := some ((Code.region 0 #[⟨some 4, .assign (.const (.slice none 0 0)), 22, "slices.go:422", #[], none⟩] false).seq (((Code.region 1 #[⟨some 5, .move (.tmp 1), 3, "slices.go:423", #[], none⟩, ⟨some 6, .binOp .lss 3 (.tmp 5) (.const (.int .i64 0)) 3, 4, "slices.go:423", #[⟨0, .data⟩], none⟩] false).seq (Code.cond (.tmp 6) (Code.region 2 #[⟨some 7, .makeInterface 9 (.const (.string { data := #[99, 97, 110, 110, 111, 116, 32, 98, 101, 32, 110, 101, 103, 97, 116, 105, 118, 101] })), 20, "slices.go:424", #[], none⟩, ⟨none, tagOp 4, 0, "slices.go:424", #[⟨0, .data⟩], none⟩] false) Code.skip)).seq (((Code.region 3 #[⟨some 8, .move (.tmp 1), 3, "slices.go:426", #[], none⟩, ⟨some 9, .move (.tmp 0), 22, "slices.go:426", #[], none⟩, ⟨some 10, .call ⟨.builtin .cap, #[.tmp 9], #[22]⟩, 3, "slices.go:426", #[⟨1, .data⟩], none⟩, ⟨some 11, .move (.tmp 0), 22, "slices.go:426", #[], none⟩, ⟨some 12, .call ⟨.builtin .len, #[.tmp 11], #[22]⟩, 3, "slices.go:426", #[⟨3, .data⟩], none⟩, ⟨some 13, .binOp .sub 3 (.tmp 10) (.tmp 12) 3, 3, "slices.go:426", #[⟨2, .data⟩, ⟨4, .data⟩], none⟩, ⟨some 14, .binOp .sub 3 (.tmp 8) (.tmp 13) 3, 3, "slices.go:426", #[⟨0, .data⟩, ⟨5, .data⟩], none⟩, ⟨some 1, .assign (.tmp 14), 3, "slices.go:426", #[⟨6, .data⟩, ⟨0, .phase⟩, ⟨1, .phase⟩, ⟨2, .phase⟩, ⟨3, .phase⟩, ⟨4, .phase⟩, ⟨5, .phase⟩, ⟨6, .phase⟩], none⟩] false).seq ((Code.region 4 #[⟨some 15, .move (.tmp 1), 3, "slices.go:426", #[], none⟩, ⟨some 16, .binOp .gtr 3 (.tmp 15) (.const (.int .i64 0)) 3, 4, "slices.go:426", #[⟨0, .data⟩], none⟩] false).seq (Code.cond (.tmp 16) (Code.region 5 #[⟨some 17, .move (.tmp 0), 22, "slices.go:428", #[], none⟩, ⟨some 18, .move (.tmp 0), 22, "slices.go:428", #[], none⟩, ⟨some 19, .call ⟨.builtin .cap, #[.tmp 18], #[22]⟩, 3, "slices.go:428", #[⟨1, .data⟩], none⟩, ⟨some 20, .slice 22 (.tmp 17) none (some (.tmp 19)) none, 22, "slices.go:428", #[⟨0, .data⟩, ⟨2, .data⟩], none⟩, ⟨some 21, .move (.tmp 1), 3, "slices.go:428", #[], none⟩, ⟨some 22, .call ⟨.builtin .append, #[.tmp 20, .tmp 21], #[22, 3]⟩, 22, "slices.go:428", #[⟨3, .data⟩, ⟨4, .data⟩], none⟩, ⟨some 23, .move (.tmp 0), 22, "slices.go:428", #[], none⟩, ⟨some 24, .call ⟨.builtin .len, #[.tmp 23], #[22]⟩, 3, "slices.go:428", #[⟨6, .data⟩], none⟩, ⟨some 25, .slice 22 (.tmp 22) none (some (.tmp 24)) none, 22, "slices.go:428", #[⟨5, .data⟩, ⟨7, .data⟩], none⟩, ⟨some 0, .assign (.tmp 25), 22, "slices.go:428", #[⟨8, .data⟩, ⟨5, .chain⟩, ⟨0, .phase⟩, ⟨1, .phase⟩, ⟨2, .phase⟩, ⟨3, .phase⟩, ⟨4, .phase⟩, ⟨5, .phase⟩, ⟨6, .phase⟩, ⟨7, .phase⟩, ⟨8, .phase⟩], none⟩] false) Code.skip))).seq ((Code.region 6 #[⟨some 26, .move (.tmp 0), 22, "slices.go:430", #[], none⟩, ⟨some 4, .assign (.tmp 26), 22, "slices.go:430", #[⟨0, .data⟩, ⟨0, .phase⟩], none⟩] false).seq Code.ret)))) }
@[simp] theorem func10 : prog.funcs[10]? = some Tryz.f10 := star_at Tryz.func10 (by kernel_rfl)
@[simp] theorem func100 : prog.funcs[100]? = some Tryz.f100 := star_at Tryz.func100 (by kernel_rfl)
@[simp] theorem func101 : prog.funcs[101]? = some Tryz.f101 := star_at Tryz.func101 (by kernel_rfl)
@[simp] theorem func102 : prog.funcs[102]? = some Tryz.f102 := star_at Tryz.func102 (by kernel_rfl)
@[simp] theorem func103 : prog.funcs[103]? = some Tryz.f103 := star_at Tryz.func103 (by kernel_rfl)
@[simp] theorem func104 : prog.funcs[104]? = some Tryz.f104 := star_at Tryz.func104 (by kernel_rfl)
@[simp] theorem func105 : prog.funcs[105]? = some Tryz.f105 := star_at Tryz.func105 (by kernel_rfl)
@[simp] theorem func106 : prog.funcs[106]? = some Tryz.f106 := star_at Tryz.func106 (by kernel_rfl)
@[simp] theorem func107 : prog.funcs[107]? = some Tryz.f107 := star_at Tryz.func107 (by kernel_rfl)
@[simp] theorem func108 : prog.funcs[108]? = some Tryz.f108 := star_at Tryz.func108 (by kernel_rfl)
@[simp] theorem func109 : prog.funcs[109]? = some Tryz.f109 := star_at Tryz.func109 (by kernel_rfl)
@[simp] theorem func11 : prog.funcs[11]? = some f11 := star_at Tryz.func11 (by kernel_rfl)
@[simp] theorem func110 : prog.funcs[110]? = some Tryz.f110 := star_at Tryz.func110 (by kernel_rfl)
@[simp] theorem func111 : prog.funcs[111]? = some Tryz.f111 := star_at Tryz.func111 (by kernel_rfl)
@[simp] theorem func112 : prog.funcs[112]? = some Tryz.f112 := star_at Tryz.func112 (by kernel_rfl)
@[simp] theorem func113 : prog.funcs[113]? = some Tryz.f113 := star_at Tryz.func113 (by kernel_rfl)
@[simp] theorem func114 : prog.funcs[114]? = some Tryz.f114 := star_at Tryz.func114 (by kernel_rfl)
@[simp] theorem func115 : prog.funcs[115]? = some Tryz.f115 := star_at Tryz.func115 (by kernel_rfl)
@[simp] theorem func116 : prog.funcs[116]? = some Tryz.f116 := star_at Tryz.func116 (by kernel_rfl)
@[simp] theorem func117 : prog.funcs[117]? = some Tryz.f117 := star_at Tryz.func117 (by kernel_rfl)
@[simp] theorem func119 : prog.funcs[119]? = some Tryz.f119 := star_at Tryz.func119 (by kernel_rfl)
@[simp] theorem func120 : prog.funcs[120]? = some f120 := star_at Tryz.func120 (by kernel_rfl)
@[simp] theorem func121 : prog.funcs[121]? = some f121 := star_at Tryz.func121 (by kernel_rfl)
@[simp] theorem func125 : prog.funcs[125]? = some Tryz.f125 := star_at Tryz.func125 (by kernel_rfl)
@[simp] theorem func135 : prog.funcs[135]? = some Tryz.f135 := star_at Tryz.func135 (by kernel_rfl)
@[simp] theorem func136 : prog.funcs[136]? = some Tryz.f136 := star_at Tryz.func136 (by kernel_rfl)
@[simp] theorem func137 : prog.funcs[137]? = some Tryz.f137 := star_at Tryz.func137 (by kernel_rfl)
@[simp] theorem func138 : prog.funcs[138]? = some Tryz.f138 := star_at Tryz.func138 (by kernel_rfl)
@[simp] theorem func139 : prog.funcs[139]? = some Tryz.f139 := star_at Tryz.func139 (by kernel_rfl)
@[simp] theorem func14 : prog.funcs[14]? = some Tryz.f14 := star_at Tryz.func14 (by kernel_rfl)
@[simp] theorem func140 : prog.funcs[140]? = some Tryz.f140 := star_at Tryz.func140 (by kernel_rfl)
@[simp] theorem func141 : prog.funcs[141]? = some Tryz.f141 := star_at Tryz.func141 (by kernel_rfl)
@[simp] theorem func142 : prog.funcs[142]? = some Tryz.f142 := star_at Tryz.func142 (by kernel_rfl)
@[simp] theorem func143 : prog.funcs[143]? = some Tryz.f143 := star_at Tryz.func143 (by kernel_rfl)
@[simp] theorem func144 : prog.funcs[144]? = some Tryz.f144 := star_at Tryz.func144 (by kernel_rfl)
@[simp] theorem func147 : prog.funcs[147]? = some Tryz.f147 := star_at Tryz.func147 (by kernel_rfl)
@[simp] theorem func149 : prog.funcs[149]? = some Tryz.f149 := star_at Tryz.func149 (by kernel_rfl)
@[simp] theorem func15 : prog.funcs[15]? = some Tryz.f15 := star_at Tryz.func15 (by kernel_rfl)
@[simp] theorem func16 : prog.funcs[16]? = some Tryz.f16 := star_at Tryz.func16 (by kernel_rfl)
@[simp] theorem func160 : prog.funcs[160]? = some Tryz.f160 := star_at Tryz.func160 (by kernel_rfl)
@[simp] theorem func161 : prog.funcs[161]? = some Tryz.f161 := star_at Tryz.func161 (by kernel_rfl)
@[simp] theorem func162 : prog.funcs[162]? = some Tryz.f162 := star_at Tryz.func162 (by kernel_rfl)
@[simp] theorem func163 : prog.funcs[163]? = some Tryz.f163 := star_at Tryz.func163 (by kernel_rfl)
@[simp] theorem func164 : prog.funcs[164]? = some Tryz.f164 := star_at Tryz.func164 (by kernel_rfl)
@[simp] theorem func165 : prog.funcs[165]? = some Tryz.f165 := star_at Tryz.func165 (by kernel_rfl)
@[simp] theorem func166 : prog.funcs[166]? = some Tryz.f166 := star_at Tryz.func166 (by kernel_rfl)
@[simp] theorem func167 : prog.funcs[167]? = some Tryz.f167 := star_at Tryz.func167 (by kernel_rfl)
@[simp] theorem func168 : prog.funcs[168]? = some Tryz.f168 := star_at Tryz.func168 (by kernel_rfl)
@[simp] theorem func169 : prog.funcs[169]? = some Tryz.f169 := star_at Tryz.func169 (by kernel_rfl)
@[simp] theorem func17 : prog.funcs[17]? = some f17 := star_at Tryz.func17 (by kernel_rfl)
@[simp] theorem func170 : prog.funcs[170]? = some Tryz.f170 := star_at Tryz.func170 (by kernel_rfl)
@[simp] theorem func177 : prog.funcs[177]? = some Tryz.f177 := star_at Tryz.func177 (by kernel_rfl)
@[simp] theorem func178 : prog.funcs[178]? = some Tryz.f178 := star_at Tryz.func178 (by kernel_rfl)
@[simp] theorem func179 : prog.funcs[179]? = some Tryz.f179 := star_at Tryz.func179 (by kernel_rfl)
@[simp] theorem func18 : prog.funcs[18]? = some Tryz.f18 := star_at Tryz.func18 (by kernel_rfl)
@[simp] theorem func180 : prog.funcs[180]? = some Tryz.f180 := star_at Tryz.func180 (by kernel_rfl)
@[simp] theorem func181 : prog.funcs[181]? = some Tryz.f181 := star_at Tryz.func181 (by kernel_rfl)
@[simp] theorem func182 : prog.funcs[182]? = some Tryz.f182 := star_at Tryz.func182 (by kernel_rfl)
@[simp] theorem func183 : prog.funcs[183]? = some Tryz.f183 := star_at Tryz.func183 (by kernel_rfl)
@[simp] theorem func184 : prog.funcs[184]? = some Tryz.f184 := star_at Tryz.func184 (by kernel_rfl)
@[simp] theorem func185 : prog.funcs[185]? = some Tryz.f185 := star_at Tryz.func185 (by kernel_rfl)
@[simp] theorem func186 : prog.funcs[186]? = some Tryz.f186 := star_at Tryz.func186 (by kernel_rfl)
@[simp] theorem func196 : prog.funcs[196]? = some Tryz.f196 := star_at Tryz.func196 (by kernel_rfl)
@[simp] theorem func197 : prog.funcs[197]? = some Tryz.f197 := star_at Tryz.func197 (by kernel_rfl)
@[simp] theorem func198 : prog.funcs[198]? = some Tryz.f198 := star_at Tryz.func198 (by kernel_rfl)
@[simp] theorem func199 : prog.funcs[199]? = some Tryz.f199 := star_at Tryz.func199 (by kernel_rfl)
@[simp] theorem func20 : prog.funcs[20]? = some Tryz.f20 := star_at Tryz.func20 (by kernel_rfl)
@[simp] theorem func200 : prog.funcs[200]? = some Tryz.f200 := star_at Tryz.func200 (by kernel_rfl)
@[simp] theorem func201 : prog.funcs[201]? = some Tryz.f201 := star_at Tryz.func201 (by kernel_rfl)
@[simp] theorem func202 : prog.funcs[202]? = some Tryz.f202 := star_at Tryz.func202 (by kernel_rfl)
@[simp] theorem func21 : prog.funcs[21]? = some Tryz.f21 := star_at Tryz.func21 (by kernel_rfl)
@[simp] theorem func213 : prog.funcs[213]? = some Tryz.f213 := star_at Tryz.func213 (by kernel_rfl)
@[simp] theorem func214 : prog.funcs[214]? = some Tryz.f214 := star_at Tryz.func214 (by kernel_rfl)
@[simp] theorem func215 : prog.funcs[215]? = some Tryz.f215 := star_at Tryz.func215 (by kernel_rfl)
@[simp] theorem func216 : prog.funcs[216]? = some Tryz.f216 := star_at Tryz.func216 (by kernel_rfl)
@[simp] theorem func217 : prog.funcs[217]? = some Tryz.f217 := star_at Tryz.func217 (by kernel_rfl)
@[simp] theorem func218 : prog.funcs[218]? = some Tryz.f218 := star_at Tryz.func218 (by kernel_rfl)
@[simp] theorem func224 : prog.funcs[224]? = some Tryz.f224 := star_at Tryz.func224 (by kernel_rfl)
@[simp] theorem func23 : prog.funcs[23]? = some Tryz.f23 := star_at Tryz.func23 (by kernel_rfl)
@[simp] theorem func234 : prog.funcs[234]? = some Tryz.f234 := star_at Tryz.func234 (by kernel_rfl)
@[simp] theorem func235 : prog.funcs[235]? = some Tryz.f235 := star_at Tryz.func235 (by kernel_rfl)
@[simp] theorem func24 : prog.funcs[24]? = some Tryz.f24 := star_at Tryz.func24 (by kernel_rfl)
@[simp] theorem func25 : prog.funcs[25]? = some Tryz.f25 := star_at Tryz.func25 (by kernel_rfl)
@[simp] theorem func26 : prog.funcs[26]? = some Tryz.f26 := star_at Tryz.func26 (by kernel_rfl)
@[simp] theorem func27 : prog.funcs[27]? = some Tryz.f27 := star_at Tryz.func27 (by kernel_rfl)
@[simp] theorem func28 : prog.funcs[28]? = some Tryz.f28 := star_at Tryz.func28 (by kernel_rfl)
@[simp] theorem func30 : prog.funcs[30]? = some Tryz.f30 := star_at Tryz.func30 (by kernel_rfl)
@[simp] theorem func31 : prog.funcs[31]? = some Tryz.f31 := star_at Tryz.func31 (by kernel_rfl)
@[simp] theorem func39 : prog.funcs[39]? = some Tryz.f39 := star_at Tryz.func39 (by kernel_rfl)
@[simp] theorem func41 : prog.funcs[41]? = some Tryz.f41 := star_at Tryz.func41 (by kernel_rfl)
@[simp] theorem func42 : prog.funcs[42]? = some Tryz.f42 := star_at Tryz.func42 (by kernel_rfl)
@[simp] theorem func43 : prog.funcs[43]? = some Tryz.f43 := star_at Tryz.func43 (by kernel_rfl)
@[simp] theorem func44 : prog.funcs[44]? = some Tryz.f44 := star_at Tryz.func44 (by kernel_rfl)
@[simp] theorem func45 : prog.funcs[45]? = some Tryz.f45 := star_at Tryz.func45 (by kernel_rfl)
@[simp] theorem func46 : prog.funcs[46]? = some Tryz.f46 := star_at Tryz.func46 (by kernel_rfl)
@[simp] theorem func47 : prog.funcs[47]? = some Tryz.f47 := star_at Tryz.func47 (by kernel_rfl)
@[simp] theorem func48 : prog.funcs[48]? = some Tryz.f48 := star_at Tryz.func48 (by kernel_rfl)
@[simp] theorem func49 : prog.funcs[49]? = some Tryz.f49 := star_at Tryz.func49 (by kernel_rfl)
@[simp] theorem func5 : prog.funcs[5]? = some Tryz.f5 := star_at Tryz.func5 (by kernel_rfl)
@[simp] theorem func50 : prog.funcs[50]? = some Tryz.f50 := star_at Tryz.func50 (by kernel_rfl)
@[simp] theorem func51 : prog.funcs[51]? = some Tryz.f51 := star_at Tryz.func51 (by kernel_rfl)
@[simp] theorem func52 : prog.funcs[52]? = some f52 := star_at Tryz.func52 (by kernel_rfl)
@[simp] theorem func53 : prog.funcs[53]? = some Tryz.f53 := star_at Tryz.func53 (by kernel_rfl)
@[simp] theorem func56 : prog.funcs[56]? = some Tryz.f56 := star_at Tryz.func56 (by kernel_rfl)
@[simp] theorem func57 : prog.funcs[57]? = some Tryz.f57 := star_at Tryz.func57 (by kernel_rfl)
@[simp] theorem func58 : prog.funcs[58]? = some Tryz.f58 := star_at Tryz.func58 (by kernel_rfl)
@[simp] theorem func6 : prog.funcs[6]? = some f6 := star_at Tryz.func6 (by kernel_rfl)
@[simp] theorem func69 : prog.funcs[69]? = some Tryz.f69 := star_at Tryz.func69 (by kernel_rfl)
@[simp] theorem func7 : prog.funcs[7]? = some Tryz.f7 := star_at Tryz.func7 (by kernel_rfl)
@[simp] theorem func70 : prog.funcs[70]? = some Tryz.f70 := star_at Tryz.func70 (by kernel_rfl)
@[simp] theorem func71 : prog.funcs[71]? = some Tryz.f71 := star_at Tryz.func71 (by kernel_rfl)
@[simp] theorem func72 : prog.funcs[72]? = some Tryz.f72 := star_at Tryz.func72 (by kernel_rfl)
@[simp] theorem func73 : prog.funcs[73]? = some Tryz.f73 := star_at Tryz.func73 (by kernel_rfl)
@[simp] theorem func74 : prog.funcs[74]? = some Tryz.f74 := star_at Tryz.func74 (by kernel_rfl)
@[simp] theorem func75 : prog.funcs[75]? = some Tryz.f75 := star_at Tryz.func75 (by kernel_rfl)
@[simp] theorem func76 : prog.funcs[76]? = some Tryz.f76 := star_at Tryz.func76 (by kernel_rfl)
@[simp] theorem func77 : prog.funcs[77]? = some Tryz.f77 := star_at Tryz.func77 (by kernel_rfl)
@[simp] theorem func78 : prog.funcs[78]? = some Tryz.f78 := star_at Tryz.func78 (by kernel_rfl)
@[simp] theorem func79 : prog.funcs[79]? = some Tryz.f79 := star_at Tryz.func79 (by kernel_rfl)
@[simp] theorem func8 : prog.funcs[8]? = some Tryz.f8 := star_at Tryz.func8 (by kernel_rfl)
@[simp] theorem func80 : prog.funcs[80]? = some Tryz.f80 := star_at Tryz.func80 (by kernel_rfl)
@[simp] theorem func81 : prog.funcs[81]? = some Tryz.f81 := star_at Tryz.func81 (by kernel_rfl)
@[simp] theorem func86 : prog.funcs[86]? = some f86 := star_at Tryz.func86 (by kernel_rfl)
@[simp] theorem func89 : prog.funcs[89]? = some Tryz.f89 := star_at Tryz.func89 (by kernel_rfl)
@[simp] theorem func9 : prog.funcs[9]? = some Tryz.f9 := star_at Tryz.func9 (by kernel_rfl)
@[simp] theorem globals_size : prog.globals.size = 14 := by kernel_rfl
@[simp] theorem inits_eq : prog.inits = #[2] := by kernel_rfl
@[simp] theorem isAgg107 : ∀ (w : World), Sem.run prog (isAgg 107) w = Result.ok false w := by intro w; kernel_rfl
@[simp] theorem isAgg110 : ∀ (w : World), Sem.run prog (isAgg 110) w = Result.ok true w := by intro w; kernel_rfl
@[simp] theorem isAgg118 : ∀ (w : World), Sem.run prog (isAgg 118) w = Result.ok false w := by intro w; kernel_rfl
@[simp] theorem isAgg132 : ∀ (w : World), Sem.run prog (isAgg 132) w = Result.ok false w := by intro w; kernel_rfl
@[simp] theorem isAgg168 : ∀ (w : World), Sem.run prog (isAgg 168) w = Result.ok false w := by intro w; kernel_rfl
@[simp] theorem isAgg180 : ∀ (w : World), Sem.run prog (isAgg 180) w = Result.ok true w := by intro w; kernel_rfl
@[simp] theorem isAgg203 : ∀ (w : World), Sem.run prog (isAgg 203) w = Result.ok true w := by intro w; kernel_rfl
@[simp] theorem isAgg205 : ∀ (w : World), Sem.run prog (isAgg 205) w = Result.ok true w := by intro w; kernel_rfl
@[simp] theorem isAgg208 : ∀ (w : World), Sem.run prog (isAgg 208) w = Result.ok false w := by intro w; kernel_rfl
@[simp] theorem isAgg22 : ∀ (w : World), Sem.run prog (isAgg 22) w = Result.ok false w := by intro w; kernel_rfl
@[simp] theorem isAgg230 : ∀ (w : World), Sem.run prog (isAgg 230) w = Result.ok true w := by intro w; kernel_rfl
@[simp] theorem isAgg231 : ∀ (w : World), Sem.run prog (isAgg 231) w = Result.ok true w := by intro w; kernel_rfl
@[simp] theorem isAgg29 : ∀ (w : World), Sem.run prog (isAgg 29) w = Result.ok true w := by intro w; kernel_rfl
@[simp] theorem isAgg3 : ∀ (w : World), Sem.run prog (isAgg 3) w = Result.ok false w := by intro w; kernel_rfl
@[simp] theorem isAgg39 : ∀ (w : World), Sem.run prog (isAgg 39) w = Result.ok true w := by intro w; kernel_rfl
@[simp] theorem isAgg4 : ∀ (w : World), Sem.run prog (isAgg 4) w = Result.ok false w := by intro w; kernel_rfl
@[simp] theorem isAgg5 : ∀ (w : World), Sem.run prog (isAgg 5) w = Result.ok false w := by intro w; kernel_rfl
@[simp] theorem isAgg55 : ∀ (w : World), Sem.run prog (isAgg 55) w = Result.ok true w := by intro w; kernel_rfl
@[simp] theorem isAgg63 : ∀ (w : World), Sem.run prog (isAgg 63) w = Result.ok false w := by intro w; kernel_rfl
@[simp] theorem isAgg65 : ∀ (w : World), Sem.run prog (isAgg 65) w = Result.ok true w := by intro w; kernel_rfl
@[simp] theorem isAgg73 : ∀ (w : World), Sem.run prog (isAgg 73) w = Result.ok false w := by intro w; kernel_rfl
@[simp] theorem isAgg78 : ∀ (w : World), Sem.run prog (isAgg 78) w = Result.ok true w := by intro w; kernel_rfl
@[simp] theorem isAgg80 : ∀ (w : World), Sem.run prog (isAgg 80) w = Result.ok true w := by intro w; kernel_rfl
@[simp] theorem isAgg86 : ∀ (w : World), Sem.run prog (isAgg 86) w = Result.ok true w := by intro w; kernel_rfl
@[simp] theorem isAgg9 : ∀ (w : World), Sem.run prog (isAgg 9) w = Result.ok false w := by intro w; kernel_rfl
@[simp] theorem main_eq : prog.main = 0 := by kernel_rfl
@[simp] theorem rt_eq : prog.rt = { boundsError := 8, errorString := 10, plainError := 11, errorAddressString := 14, typeAssertionError := 15, panicNilError := 16, unhashableTypeError := 19, string := 9, any := 20, int := 3, bool := 4, rune := 21, byte := 5 } := by kernel_rfl
@[simp] theorem runUnderlying107 : ∀ (w : World), Sem.run prog (underlying 107) w = Result.ok (TypeDesc.slice 63) w := by intro w; kernel_rfl
@[simp] theorem runUnderlying110 : ∀ (w : World), Sem.run prog (underlying 110) w = Result.ok (TypeDesc.struct #[{ name := "Rate", type := 3, offset := 0, embedded := false, tag := "", pkgPath := "", byteOffset := 0 }, { name := "Suffix", type := 3, offset := 1, embedded := false, tag := "", pkgPath := "", byteOffset := 8 }, { name := "A", type := 78, offset := 2, embedded := false, tag := "", pkgPath := "", byteOffset := 16 }, { name := "At", type := 3, offset := 27, embedded := false, tag := "", pkgPath := "", byteOffset := 216 }, { name := "Reading", type := 4, offset := 28, embedded := false, tag := "", pkgPath := "", byteOffset := 224 }]) w := by intro w; kernel_rfl
@[simp] theorem runUnderlying118 : ∀ (w : World), Sem.run prog (underlying 118) w = Result.ok (TypeDesc.map 3 3) w := by intro w; kernel_rfl
@[simp] theorem runUnderlying132 : ∀ (w : World), Sem.run prog (underlying 132) w = Result.ok (TypeDesc.slice 22) w := by intro w; kernel_rfl
@[simp] theorem runUnderlying168 : ∀ (w : World), Sem.run prog (underlying 168) w = Result.ok (TypeDesc.int .u64) w := by intro w; kernel_rfl
@[simp] theorem runUnderlying180 : ∀ (w : World), Sem.run prog (underlying 180) w = Result.ok (TypeDesc.array 200 5) w := by intro w; kernel_rfl
@[simp] theorem runUnderlying203 : ∀ (w : World), Sem.run prog (underlying 203) w = Result.ok (TypeDesc.array 25 3) w := by intro w; kernel_rfl
@[simp] theorem runUnderlying205 : ∀ (w : World), Sem.run prog (underlying 205) w = Result.ok (TypeDesc.array 5 63) w := by intro w; kernel_rfl
@[simp] theorem runUnderlying208 : ∀ (w : World), Sem.run prog (underlying 208) w = Result.ok (TypeDesc.func #[22] #[63] false) w := by intro w; kernel_rfl
@[simp] theorem runUnderlying22 : ∀ (w : World), Sem.run prog (underlying 22) w = Result.ok (TypeDesc.slice 5) w := by intro w; kernel_rfl
@[simp] theorem runUnderlying230 : ∀ (w : World), Sem.run prog (underlying 230) w = Result.ok (TypeDesc.array 5 3) w := by intro w; kernel_rfl
@[simp] theorem runUnderlying231 : ∀ (w : World), Sem.run prog (underlying 231) w = Result.ok (TypeDesc.array 5 230) w := by intro w; kernel_rfl
@[simp] theorem runUnderlying29 : ∀ (w : World), Sem.run prog (underlying 29) w = Result.ok (TypeDesc.struct #[{ name := "N", type := 22, offset := 0, embedded := false, tag := "", pkgPath := "", byteOffset := 0 }, { name := "S", type := 22, offset := 1, embedded := false, tag := "", pkgPath := "", byteOffset := 24 }]) w := by intro w; kernel_rfl
@[simp] theorem runUnderlying3 : ∀ (w : World), Sem.run prog (underlying 3) w = Result.ok (TypeDesc.int .i64) w := by intro w; kernel_rfl
@[simp] theorem runUnderlying39 : ∀ (w : World), Sem.run prog (underlying 39) w = Result.ok (TypeDesc.struct #[{ name := "Alg", type := 3, offset := 0, embedded := false, tag := "", pkgPath := "", byteOffset := 0 }, { name := "Name", type := 29, offset := 1, embedded := false, tag := "", pkgPath := "", byteOffset := 8 }, { name := "B", type := 22, offset := 3, embedded := false, tag := "", pkgPath := "", byteOffset := 56 }, { name := "Many", type := 3, offset := 4, embedded := false, tag := "", pkgPath := "", byteOffset := 80 }]) w := by intro w; kernel_rfl
@[simp] theorem runUnderlying4 : ∀ (w : World), Sem.run prog (underlying 4) w = Result.ok TypeDesc.bool w := by intro w; kernel_rfl
@[simp] theorem runUnderlying5 : ∀ (w : World), Sem.run prog (underlying 5) w = Result.ok (TypeDesc.int .u8) w := by intro w; kernel_rfl
@[simp] theorem runUnderlying55 : ∀ (w : World), Sem.run prog (underlying 55) w = Result.ok (TypeDesc.struct #[{ name := "word", type := 9, offset := 0, embedded := false, tag := "", pkgPath := "cribble/alg", byteOffset := 0 }, { name := "kind", type := 3, offset := 1, embedded := false, tag := "", pkgPath := "cribble/alg", byteOffset := 16 }, { name := "digest", type := 3, offset := 2, embedded := false, tag := "", pkgPath := "cribble/alg", byteOffset := 24 }, { name := "block", type := 3, offset := 3, embedded := false, tag := "", pkgPath := "cribble/alg", byteOffset := 32 }]) w := by intro w; kernel_rfl
@[simp] theorem runUnderlying63 : ∀ (w : World), Sem.run prog (underlying 63) w = Result.ok (TypeDesc.int .u64) w := by intro w; kernel_rfl
@[simp] theorem runUnderlying65 : ∀ (w : World), Sem.run prog (underlying 65) w = Result.ok (TypeDesc.struct #[{ name := "Hi", type := 63, offset := 0, embedded := false, tag := "", pkgPath := "", byteOffset := 0 }, { name := "Lo", type := 63, offset := 1, embedded := false, tag := "", pkgPath := "", byteOffset := 8 }]) w := by intro w; kernel_rfl
@[simp] theorem runUnderlying73 : ∀ (w : World), Sem.run prog (underlying 73) w = Result.ok (TypeDesc.slice 3) w := by intro w; kernel_rfl
@[simp] theorem runUnderlying78 : ∀ (w : World), Sem.run prog (underlying 78) w = Result.ok (TypeDesc.array 25 63) w := by intro w; kernel_rfl
@[simp] theorem runUnderlying80 : ∀ (w : World), Sem.run prog (underlying 80) w = Result.ok (TypeDesc.struct #[{ name := "rate", type := 3, offset := 0, embedded := false, tag := "", pkgPath := "cribble/sponge", byteOffset := 0 }, { name := "suffix", type := 5, offset := 1, embedded := false, tag := "", pkgPath := "cribble/sponge", byteOffset := 8 }, { name := "a", type := 78, offset := 2, embedded := false, tag := "", pkgPath := "cribble/sponge", byteOffset := 16 }, { name := "at", type := 3, offset := 27, embedded := false, tag := "", pkgPath := "cribble/sponge", byteOffset := 216 }, { name := "reading", type := 4, offset := 28, embedded := false, tag := "", pkgPath := "cribble/sponge", byteOffset := 224 }]) w := by intro w; kernel_rfl
@[simp] theorem runUnderlying86 : ∀ (w : World), Sem.run prog (underlying 86) w = Result.ok (TypeDesc.array 15 55) w := by intro w; kernel_rfl
@[simp] theorem runUnderlying9 : ∀ (w : World), Sem.run prog (underlying 9) w = Result.ok TypeDesc.string w := by intro w; kernel_rfl
@[simp] theorem sizeOf107 : ∀ (w : World), Sem.run prog (sizeOf 107) w = Result.ok 1 w := by intro w; kernel_rfl
@[simp] theorem sizeOf110 : ∀ (w : World), Sem.run prog (sizeOf 110) w = Result.ok 29 w := by intro w; kernel_rfl
@[simp] theorem sizeOf118 : ∀ (w : World), Sem.run prog (sizeOf 118) w = Result.ok 1 w := by intro w; kernel_rfl
@[simp] theorem sizeOf132 : ∀ (w : World), Sem.run prog (sizeOf 132) w = Result.ok 1 w := by intro w; kernel_rfl
@[simp] theorem sizeOf168 : ∀ (w : World), Sem.run prog (sizeOf 168) w = Result.ok 1 w := by intro w; kernel_rfl
@[simp] theorem sizeOf180 : ∀ (w : World), Sem.run prog (sizeOf 180) w = Result.ok 200 w := by intro w; kernel_rfl
@[simp] theorem sizeOf203 : ∀ (w : World), Sem.run prog (sizeOf 203) w = Result.ok 25 w := by intro w; kernel_rfl
@[simp] theorem sizeOf205 : ∀ (w : World), Sem.run prog (sizeOf 205) w = Result.ok 5 w := by intro w; kernel_rfl
@[simp] theorem sizeOf208 : ∀ (w : World), Sem.run prog (sizeOf 208) w = Result.ok 1 w := by intro w; kernel_rfl
@[simp] theorem sizeOf22 : ∀ (w : World), Sem.run prog (sizeOf 22) w = Result.ok 1 w := by intro w; kernel_rfl
@[simp] theorem sizeOf230 : ∀ (w : World), Sem.run prog (sizeOf 230) w = Result.ok 5 w := by intro w; kernel_rfl
@[simp] theorem sizeOf231 : ∀ (w : World), Sem.run prog (sizeOf 231) w = Result.ok 25 w := by intro w; kernel_rfl
@[simp] theorem sizeOf29 : ∀ (w : World), Sem.run prog (sizeOf 29) w = Result.ok 2 w := by intro w; kernel_rfl
@[simp] theorem sizeOf3 : ∀ (w : World), Sem.run prog (sizeOf 3) w = Result.ok 1 w := by intro w; kernel_rfl
@[simp] theorem sizeOf39 : ∀ (w : World), Sem.run prog (sizeOf 39) w = Result.ok 5 w := by intro w; kernel_rfl
@[simp] theorem sizeOf4 : ∀ (w : World), Sem.run prog (sizeOf 4) w = Result.ok 1 w := by intro w; kernel_rfl
@[simp] theorem sizeOf5 : ∀ (w : World), Sem.run prog (sizeOf 5) w = Result.ok 1 w := by intro w; kernel_rfl
@[simp] theorem sizeOf55 : ∀ (w : World), Sem.run prog (sizeOf 55) w = Result.ok 4 w := by intro w; kernel_rfl
@[simp] theorem sizeOf63 : ∀ (w : World), Sem.run prog (sizeOf 63) w = Result.ok 1 w := by intro w; kernel_rfl
@[simp] theorem sizeOf65 : ∀ (w : World), Sem.run prog (sizeOf 65) w = Result.ok 2 w := by intro w; kernel_rfl
@[simp] theorem sizeOf73 : ∀ (w : World), Sem.run prog (sizeOf 73) w = Result.ok 1 w := by intro w; kernel_rfl
@[simp] theorem sizeOf78 : ∀ (w : World), Sem.run prog (sizeOf 78) w = Result.ok 25 w := by intro w; kernel_rfl
@[simp] theorem sizeOf80 : ∀ (w : World), Sem.run prog (sizeOf 80) w = Result.ok 29 w := by intro w; kernel_rfl
@[simp] theorem sizeOf86 : ∀ (w : World), Sem.run prog (sizeOf 86) w = Result.ok 60 w := by intro w; kernel_rfl
@[simp] theorem sizeOf9 : ∀ (w : World), Sem.run prog (sizeOf 9) w = Result.ok 1 w := by intro w; kernel_rfl
@[simp] theorem type107 : prog.types[107]? = some Tryz.t107 := by kernel_rfl
@[simp] theorem type110 : prog.types[110]? = some Tryz.t110 := by kernel_rfl
@[simp] theorem type118 : prog.types[118]? = some Tryz.t118 := by kernel_rfl
@[simp] theorem type132 : prog.types[132]? = some Tryz.t132 := by kernel_rfl
@[simp] theorem type168 : prog.types[168]? = some Tryz.t168 := by kernel_rfl
@[simp] theorem type180 : prog.types[180]? = some Tryz.t180 := by kernel_rfl
@[simp] theorem type203 : prog.types[203]? = some Tryz.t203 := by kernel_rfl
@[simp] theorem type205 : prog.types[205]? = some Tryz.t205 := by kernel_rfl
@[simp] theorem type208 : prog.types[208]? = some Tryz.t208 := by kernel_rfl
@[simp] theorem type22 : prog.types[22]? = some Tryz.t22 := by kernel_rfl
@[simp] theorem type230 : prog.types[230]? = some Tryz.t230 := by kernel_rfl
@[simp] theorem type231 : prog.types[231]? = some Tryz.t231 := by kernel_rfl
@[simp] theorem type29 : prog.types[29]? = some Tryz.t29 := by kernel_rfl
@[simp] theorem type3 : prog.types[3]? = some Tryz.t3 := by kernel_rfl
@[simp] theorem type39 : prog.types[39]? = some Tryz.t39 := by kernel_rfl
@[simp] theorem type4 : prog.types[4]? = some Tryz.t4 := by kernel_rfl
@[simp] theorem type5 : prog.types[5]? = some Tryz.t5 := by kernel_rfl
@[simp] theorem type55 : prog.types[55]? = some Tryz.t55 := by kernel_rfl
@[simp] theorem type63 : prog.types[63]? = some Tryz.t63 := by kernel_rfl
@[simp] theorem type65 : prog.types[65]? = some Tryz.t65 := by kernel_rfl
@[simp] theorem type73 : prog.types[73]? = some Tryz.t73 := by kernel_rfl
@[simp] theorem type78 : prog.types[78]? = some Tryz.t78 := by kernel_rfl
@[simp] theorem type80 : prog.types[80]? = some Tryz.t80 := by kernel_rfl
@[simp] theorem type86 : prog.types[86]? = some Tryz.t86 := by kernel_rfl
@[simp] theorem type9 : prog.types[9]? = some Tryz.t9 := by kernel_rfl
@[simp] theorem typeInfo107 : ∀ (w : World), Sem.run prog (typeInfo 107) w = Result.ok Tryz.t107 w := by intro w; kernel_rfl
@[simp] theorem typeInfo110 : ∀ (w : World), Sem.run prog (typeInfo 110) w = Result.ok Tryz.t110 w := by intro w; kernel_rfl
@[simp] theorem typeInfo118 : ∀ (w : World), Sem.run prog (typeInfo 118) w = Result.ok Tryz.t118 w := by intro w; kernel_rfl
@[simp] theorem typeInfo132 : ∀ (w : World), Sem.run prog (typeInfo 132) w = Result.ok Tryz.t132 w := by intro w; kernel_rfl
@[simp] theorem typeInfo168 : ∀ (w : World), Sem.run prog (typeInfo 168) w = Result.ok Tryz.t168 w := by intro w; kernel_rfl
@[simp] theorem typeInfo180 : ∀ (w : World), Sem.run prog (typeInfo 180) w = Result.ok Tryz.t180 w := by intro w; kernel_rfl
@[simp] theorem typeInfo203 : ∀ (w : World), Sem.run prog (typeInfo 203) w = Result.ok Tryz.t203 w := by intro w; kernel_rfl
@[simp] theorem typeInfo205 : ∀ (w : World), Sem.run prog (typeInfo 205) w = Result.ok Tryz.t205 w := by intro w; kernel_rfl
@[simp] theorem typeInfo208 : ∀ (w : World), Sem.run prog (typeInfo 208) w = Result.ok Tryz.t208 w := by intro w; kernel_rfl
@[simp] theorem typeInfo22 : ∀ (w : World), Sem.run prog (typeInfo 22) w = Result.ok Tryz.t22 w := by intro w; kernel_rfl
@[simp] theorem typeInfo230 : ∀ (w : World), Sem.run prog (typeInfo 230) w = Result.ok Tryz.t230 w := by intro w; kernel_rfl
@[simp] theorem typeInfo231 : ∀ (w : World), Sem.run prog (typeInfo 231) w = Result.ok Tryz.t231 w := by intro w; kernel_rfl
@[simp] theorem typeInfo29 : ∀ (w : World), Sem.run prog (typeInfo 29) w = Result.ok Tryz.t29 w := by intro w; kernel_rfl
@[simp] theorem typeInfo3 : ∀ (w : World), Sem.run prog (typeInfo 3) w = Result.ok Tryz.t3 w := by intro w; kernel_rfl
@[simp] theorem typeInfo39 : ∀ (w : World), Sem.run prog (typeInfo 39) w = Result.ok Tryz.t39 w := by intro w; kernel_rfl
@[simp] theorem typeInfo4 : ∀ (w : World), Sem.run prog (typeInfo 4) w = Result.ok Tryz.t4 w := by intro w; kernel_rfl
@[simp] theorem typeInfo5 : ∀ (w : World), Sem.run prog (typeInfo 5) w = Result.ok Tryz.t5 w := by intro w; kernel_rfl
@[simp] theorem typeInfo55 : ∀ (w : World), Sem.run prog (typeInfo 55) w = Result.ok Tryz.t55 w := by intro w; kernel_rfl
@[simp] theorem typeInfo63 : ∀ (w : World), Sem.run prog (typeInfo 63) w = Result.ok Tryz.t63 w := by intro w; kernel_rfl
@[simp] theorem typeInfo65 : ∀ (w : World), Sem.run prog (typeInfo 65) w = Result.ok Tryz.t65 w := by intro w; kernel_rfl
@[simp] theorem typeInfo73 : ∀ (w : World), Sem.run prog (typeInfo 73) w = Result.ok Tryz.t73 w := by intro w; kernel_rfl
@[simp] theorem typeInfo78 : ∀ (w : World), Sem.run prog (typeInfo 78) w = Result.ok Tryz.t78 w := by intro w; kernel_rfl
@[simp] theorem typeInfo80 : ∀ (w : World), Sem.run prog (typeInfo 80) w = Result.ok Tryz.t80 w := by intro w; kernel_rfl
@[simp] theorem typeInfo86 : ∀ (w : World), Sem.run prog (typeInfo 86) w = Result.ok Tryz.t86 w := by intro w; kernel_rfl
@[simp] theorem typeInfo9 : ∀ (w : World), Sem.run prog (typeInfo 9) w = Result.ok Tryz.t9 w := by intro w; kernel_rfl
@[simp] theorem types_size : prog.types.size = 289 := by kernel_rfl
@[simp] theorem underlying107 : prog.underlying 107 = some (TypeDesc.slice 63) := by kernel_rfl
@[simp] theorem underlying110 : prog.underlying 110 = some (TypeDesc.struct #[{ name := "Rate", type := 3, offset := 0, embedded := false, tag := "", pkgPath := "", byteOffset := 0 }, { name := "Suffix", type := 3, offset := 1, embedded := false, tag := "", pkgPath := "", byteOffset := 8 }, { name := "A", type := 78, offset := 2, embedded := false, tag := "", pkgPath := "", byteOffset := 16 }, { name := "At", type := 3, offset := 27, embedded := false, tag := "", pkgPath := "", byteOffset := 216 }, { name := "Reading", type := 4, offset := 28, embedded := false, tag := "", pkgPath := "", byteOffset := 224 }]) := by kernel_rfl
@[simp] theorem underlying118 : prog.underlying 118 = some (TypeDesc.map 3 3) := by kernel_rfl
@[simp] theorem underlying132 : prog.underlying 132 = some (TypeDesc.slice 22) := by kernel_rfl
@[simp] theorem underlying168 : prog.underlying 168 = some (TypeDesc.int .u64) := by kernel_rfl
@[simp] theorem underlying180 : prog.underlying 180 = some (TypeDesc.array 200 5) := by kernel_rfl
@[simp] theorem underlying203 : prog.underlying 203 = some (TypeDesc.array 25 3) := by kernel_rfl
@[simp] theorem underlying205 : prog.underlying 205 = some (TypeDesc.array 5 63) := by kernel_rfl
@[simp] theorem underlying208 : prog.underlying 208 = some (TypeDesc.func #[22] #[63] false) := by kernel_rfl
@[simp] theorem underlying22 : prog.underlying 22 = some (TypeDesc.slice 5) := by kernel_rfl
@[simp] theorem underlying230 : prog.underlying 230 = some (TypeDesc.array 5 3) := by kernel_rfl
@[simp] theorem underlying231 : prog.underlying 231 = some (TypeDesc.array 5 230) := by kernel_rfl
@[simp] theorem underlying29 : prog.underlying 29 = some (TypeDesc.struct #[{ name := "N", type := 22, offset := 0, embedded := false, tag := "", pkgPath := "", byteOffset := 0 }, { name := "S", type := 22, offset := 1, embedded := false, tag := "", pkgPath := "", byteOffset := 24 }]) := by kernel_rfl
@[simp] theorem underlying3 : prog.underlying 3 = some (TypeDesc.int .i64) := by kernel_rfl
@[simp] theorem underlying39 : prog.underlying 39 = some (TypeDesc.struct #[{ name := "Alg", type := 3, offset := 0, embedded := false, tag := "", pkgPath := "", byteOffset := 0 }, { name := "Name", type := 29, offset := 1, embedded := false, tag := "", pkgPath := "", byteOffset := 8 }, { name := "B", type := 22, offset := 3, embedded := false, tag := "", pkgPath := "", byteOffset := 56 }, { name := "Many", type := 3, offset := 4, embedded := false, tag := "", pkgPath := "", byteOffset := 80 }]) := by kernel_rfl
@[simp] theorem underlying4 : prog.underlying 4 = some TypeDesc.bool := by kernel_rfl
@[simp] theorem underlying5 : prog.underlying 5 = some (TypeDesc.int .u8) := by kernel_rfl
@[simp] theorem underlying55 : prog.underlying 55 = some (TypeDesc.struct #[{ name := "word", type := 9, offset := 0, embedded := false, tag := "", pkgPath := "cribble/alg", byteOffset := 0 }, { name := "kind", type := 3, offset := 1, embedded := false, tag := "", pkgPath := "cribble/alg", byteOffset := 16 }, { name := "digest", type := 3, offset := 2, embedded := false, tag := "", pkgPath := "cribble/alg", byteOffset := 24 }, { name := "block", type := 3, offset := 3, embedded := false, tag := "", pkgPath := "cribble/alg", byteOffset := 32 }]) := by kernel_rfl
@[simp] theorem underlying63 : prog.underlying 63 = some (TypeDesc.int .u64) := by kernel_rfl
@[simp] theorem underlying65 : prog.underlying 65 = some (TypeDesc.struct #[{ name := "Hi", type := 63, offset := 0, embedded := false, tag := "", pkgPath := "", byteOffset := 0 }, { name := "Lo", type := 63, offset := 1, embedded := false, tag := "", pkgPath := "", byteOffset := 8 }]) := by kernel_rfl
@[simp] theorem underlying73 : prog.underlying 73 = some (TypeDesc.slice 3) := by kernel_rfl
@[simp] theorem underlying78 : prog.underlying 78 = some (TypeDesc.array 25 63) := by kernel_rfl
@[simp] theorem underlying80 : prog.underlying 80 = some (TypeDesc.struct #[{ name := "rate", type := 3, offset := 0, embedded := false, tag := "", pkgPath := "cribble/sponge", byteOffset := 0 }, { name := "suffix", type := 5, offset := 1, embedded := false, tag := "", pkgPath := "cribble/sponge", byteOffset := 8 }, { name := "a", type := 78, offset := 2, embedded := false, tag := "", pkgPath := "cribble/sponge", byteOffset := 16 }, { name := "at", type := 3, offset := 27, embedded := false, tag := "", pkgPath := "cribble/sponge", byteOffset := 216 }, { name := "reading", type := 4, offset := 28, embedded := false, tag := "", pkgPath := "cribble/sponge", byteOffset := 224 }]) := by kernel_rfl
@[simp] theorem underlying86 : prog.underlying 86 = some (TypeDesc.array 15 55) := by kernel_rfl
@[simp] theorem underlying9 : prog.underlying 9 = some TypeDesc.string := by kernel_rfl
@[simp] theorem zeroValue107 : ∀ (w : World), Sem.run prog (zeroValue 107) w = Result.ok (.slice none 0 0) w := by intro w; kernel_rfl
@[simp] theorem zeroValue110 : ∀ (w : World), Sem.run prog (zeroValue 110) w = Result.ok (.agg #[.int .i64 0, .int .i64 0, .int .u64 0, .int .u64 0, .int .u64 0, .int .u64 0, .int .u64 0, .int .u64 0, .int .u64 0, .int .u64 0, .int .u64 0, .int .u64 0, .int .u64 0, .int .u64 0, .int .u64 0, .int .u64 0, .int .u64 0, .int .u64 0, .int .u64 0, .int .u64 0, .int .u64 0, .int .u64 0, .int .u64 0, .int .u64 0, .int .u64 0, .int .u64 0, .int .u64 0, .int .i64 0, .bool false]) w := by intro w; kernel_rfl
@[simp] theorem zeroValue118 : ∀ (w : World), Sem.run prog (zeroValue 118) w = Result.ok (.map none) w := by intro w; kernel_rfl
@[simp] theorem zeroValue132 : ∀ (w : World), Sem.run prog (zeroValue 132) w = Result.ok (.slice none 0 0) w := by intro w; kernel_rfl
@[simp] theorem zeroValue168 : ∀ (w : World), Sem.run prog (zeroValue 168) w = Result.ok (.int .u64 0) w := by intro w; kernel_rfl
@[simp] theorem zeroValue180 : ∀ (w : World), Sem.run prog (zeroValue 180) w = Result.ok (.agg Tryz.zeroCells180) w := by intro w; kernel_rfl
@[simp] theorem zeroValue203 : ∀ (w : World), Sem.run prog (zeroValue 203) w = Result.ok (.agg #[.int .i64 0, .int .i64 0, .int .i64 0, .int .i64 0, .int .i64 0, .int .i64 0, .int .i64 0, .int .i64 0, .int .i64 0, .int .i64 0, .int .i64 0, .int .i64 0, .int .i64 0, .int .i64 0, .int .i64 0, .int .i64 0, .int .i64 0, .int .i64 0, .int .i64 0, .int .i64 0, .int .i64 0, .int .i64 0, .int .i64 0, .int .i64 0, .int .i64 0]) w := by intro w; kernel_rfl
@[simp] theorem zeroValue205 : ∀ (w : World), Sem.run prog (zeroValue 205) w = Result.ok (.agg #[.int .u64 0, .int .u64 0, .int .u64 0, .int .u64 0, .int .u64 0]) w := by intro w; kernel_rfl
@[simp] theorem zeroValue208 : ∀ (w : World), Sem.run prog (zeroValue 208) w = Result.ok .nilFunc w := by intro w; kernel_rfl
@[simp] theorem zeroValue22 : ∀ (w : World), Sem.run prog (zeroValue 22) w = Result.ok (.slice none 0 0) w := by intro w; kernel_rfl
@[simp] theorem zeroValue230 : ∀ (w : World), Sem.run prog (zeroValue 230) w = Result.ok (.agg #[.int .i64 0, .int .i64 0, .int .i64 0, .int .i64 0, .int .i64 0]) w := by intro w; kernel_rfl
@[simp] theorem zeroValue231 : ∀ (w : World), Sem.run prog (zeroValue 231) w = Result.ok (.agg #[.int .i64 0, .int .i64 0, .int .i64 0, .int .i64 0, .int .i64 0, .int .i64 0, .int .i64 0, .int .i64 0, .int .i64 0, .int .i64 0, .int .i64 0, .int .i64 0, .int .i64 0, .int .i64 0, .int .i64 0, .int .i64 0, .int .i64 0, .int .i64 0, .int .i64 0, .int .i64 0, .int .i64 0, .int .i64 0, .int .i64 0, .int .i64 0, .int .i64 0]) w := by intro w; kernel_rfl
@[simp] theorem zeroValue29 : ∀ (w : World), Sem.run prog (zeroValue 29) w = Result.ok (.agg #[.slice none 0 0, .slice none 0 0]) w := by intro w; kernel_rfl
@[simp] theorem zeroValue3 : ∀ (w : World), Sem.run prog (zeroValue 3) w = Result.ok (.int .i64 0) w := by intro w; kernel_rfl
@[simp] theorem zeroValue39 : ∀ (w : World), Sem.run prog (zeroValue 39) w = Result.ok (.agg #[.int .i64 0, .slice none 0 0, .slice none 0 0, .slice none 0 0, .int .i64 0]) w := by intro w; kernel_rfl
@[simp] theorem zeroValue4 : ∀ (w : World), Sem.run prog (zeroValue 4) w = Result.ok (.bool false) w := by intro w; kernel_rfl
@[simp] theorem zeroValue5 : ∀ (w : World), Sem.run prog (zeroValue 5) w = Result.ok (.int .u8 0) w := by intro w; kernel_rfl
@[simp] theorem zeroValue55 : ∀ (w : World), Sem.run prog (zeroValue 55) w = Result.ok (.agg #[.string { data := #[] }, .int .i64 0, .int .i64 0, .int .i64 0]) w := by intro w; kernel_rfl
@[simp] theorem zeroValue63 : ∀ (w : World), Sem.run prog (zeroValue 63) w = Result.ok (.int .u64 0) w := by intro w; kernel_rfl
@[simp] theorem zeroValue65 : ∀ (w : World), Sem.run prog (zeroValue 65) w = Result.ok (.agg #[.int .u64 0, .int .u64 0]) w := by intro w; kernel_rfl
@[simp] theorem zeroValue73 : ∀ (w : World), Sem.run prog (zeroValue 73) w = Result.ok (.slice none 0 0) w := by intro w; kernel_rfl
@[simp] theorem zeroValue78 : ∀ (w : World), Sem.run prog (zeroValue 78) w = Result.ok (.agg #[.int .u64 0, .int .u64 0, .int .u64 0, .int .u64 0, .int .u64 0, .int .u64 0, .int .u64 0, .int .u64 0, .int .u64 0, .int .u64 0, .int .u64 0, .int .u64 0, .int .u64 0, .int .u64 0, .int .u64 0, .int .u64 0, .int .u64 0, .int .u64 0, .int .u64 0, .int .u64 0, .int .u64 0, .int .u64 0, .int .u64 0, .int .u64 0, .int .u64 0]) w := by intro w; kernel_rfl
@[simp] theorem zeroValue80 : ∀ (w : World), Sem.run prog (zeroValue 80) w = Result.ok (.agg #[.int .i64 0, .int .u8 0, .int .u64 0, .int .u64 0, .int .u64 0, .int .u64 0, .int .u64 0, .int .u64 0, .int .u64 0, .int .u64 0, .int .u64 0, .int .u64 0, .int .u64 0, .int .u64 0, .int .u64 0, .int .u64 0, .int .u64 0, .int .u64 0, .int .u64 0, .int .u64 0, .int .u64 0, .int .u64 0, .int .u64 0, .int .u64 0, .int .u64 0, .int .u64 0, .int .u64 0, .int .i64 0, .bool false]) w := by intro w; kernel_rfl
@[simp] theorem zeroValue86 : ∀ (w : World), Sem.run prog (zeroValue 86) w = Result.ok (.agg #[.string { data := #[] }, .int .i64 0, .int .i64 0, .int .i64 0, .string { data := #[] }, .int .i64 0, .int .i64 0, .int .i64 0, .string { data := #[] }, .int .i64 0, .int .i64 0, .int .i64 0, .string { data := #[] }, .int .i64 0, .int .i64 0, .int .i64 0, .string { data := #[] }, .int .i64 0, .int .i64 0, .int .i64 0, .string { data := #[] }, .int .i64 0, .int .i64 0, .int .i64 0, .string { data := #[] }, .int .i64 0, .int .i64 0, .int .i64 0, .string { data := #[] }, .int .i64 0, .int .i64 0, .int .i64 0, .string { data := #[] }, .int .i64 0, .int .i64 0, .int .i64 0, .string { data := #[] }, .int .i64 0, .int .i64 0, .int .i64 0, .string { data := #[] }, .int .i64 0, .int .i64 0, .int .i64 0, .string { data := #[] }, .int .i64 0, .int .i64 0, .int .i64 0, .string { data := #[] }, .int .i64 0, .int .i64 0, .int .i64 0, .string { data := #[] }, .int .i64 0, .int .i64 0, .int .i64 0, .string { data := #[] }, .int .i64 0, .int .i64 0, .int .i64 0]) w := by intro w; kernel_rfl
@[simp] theorem zeroValue9 : ∀ (w : World), Sem.run prog (zeroValue 9) w = Result.ok (.string { data := #[] }) w := by intro w; kernel_rfl
theorem ntmps5 : Tryz.f5.ntmps = 5 := by kernel_rfl
@[simp] theorem ntmps6 : f6.ntmps = 35 := by kernel_rfl
@[simp] theorem results6 : f6.results = #[ResultVar.tmp 0] := by kernel_rfl
@[simp] theorem params6 : f6.params = #[] := by kernel_rfl
@[simp] theorem nfree6 : f6.nfree = 0 := by kernel_rfl
theorem ntmps7 : Tryz.f7.ntmps = 27 := by kernel_rfl
theorem ntmps8 : Tryz.f8.ntmps = 26 := by kernel_rfl
theorem ntmps9 : Tryz.f9.ntmps = 20 := by kernel_rfl
theorem ntmps10 : Tryz.f10.ntmps = 13 := by kernel_rfl
@[simp] theorem ntmps11 : f11.ntmps = 31 := by kernel_rfl
@[simp] theorem results11 : f11.results = #[ResultVar.tmp 6, ResultVar.tmp 7] := by kernel_rfl
@[simp] theorem params11 : f11.params = #[3, 29, 22] := by kernel_rfl
@[simp] theorem nfree11 : f11.nfree = 0 := by kernel_rfl
theorem ntmps14 : Tryz.f14.ntmps = 87 := by kernel_rfl
theorem ntmps15 : Tryz.f15.ntmps = 23 := by kernel_rfl
theorem ntmps16 : Tryz.f16.ntmps = 11 := by kernel_rfl
@[simp] theorem ntmps17 : f17.ntmps = 29 := by kernel_rfl
@[simp] theorem results17 : f17.results = #[ResultVar.tmp 8, ResultVar.tmp 9] := by kernel_rfl
@[simp] theorem params17 : f17.params = #[3, 29, 22, 3] := by kernel_rfl
@[simp] theorem nfree17 : f17.nfree = 0 := by kernel_rfl
theorem ntmps18 : Tryz.f18.ntmps = 6 := by kernel_rfl
theorem ntmps20 : Tryz.f20.ntmps = 6 := by kernel_rfl
theorem ntmps21 : Tryz.f21.ntmps = 15 := by kernel_rfl
theorem ntmps23 : Tryz.f23.ntmps = 26 := by kernel_rfl
theorem ntmps24 : Tryz.f24.ntmps = 13 := by kernel_rfl
theorem ntmps25 : Tryz.f25.ntmps = 22 := by kernel_rfl
theorem ntmps26 : Tryz.f26.ntmps = 13 := by kernel_rfl
theorem ntmps27 : Tryz.f27.ntmps = 13 := by kernel_rfl
theorem ntmps28 : Tryz.f28.ntmps = 27 := by kernel_rfl
theorem ntmps30 : Tryz.f30.ntmps = 19 := by kernel_rfl
theorem ntmps31 : Tryz.f31.ntmps = 13 := by kernel_rfl
theorem ntmps39 : Tryz.f39.ntmps = 25 := by kernel_rfl
theorem ntmps41 : Tryz.f41.ntmps = 29 := by kernel_rfl
theorem ntmps42 : Tryz.f42.ntmps = 71 := by kernel_rfl
theorem ntmps43 : Tryz.f43.ntmps = 25 := by kernel_rfl
theorem ntmps44 : Tryz.f44.ntmps = 5 := by kernel_rfl
theorem ntmps45 : Tryz.f45.ntmps = 11 := by kernel_rfl
theorem ntmps46 : Tryz.f46.ntmps = 12 := by kernel_rfl
theorem ntmps47 : Tryz.f47.ntmps = 10 := by kernel_rfl
theorem ntmps48 : Tryz.f48.ntmps = 5 := by kernel_rfl
theorem ntmps49 : Tryz.f49.ntmps = 5 := by kernel_rfl
theorem ntmps50 : Tryz.f50.ntmps = 12 := by kernel_rfl
theorem ntmps51 : Tryz.f51.ntmps = 6 := by kernel_rfl
@[simp] theorem ntmps52 : f52.ntmps = 42 := by kernel_rfl
@[simp] theorem results52 : f52.results = #[ResultVar.tmp 4, ResultVar.tmp 5] := by kernel_rfl
@[simp] theorem params52 : f52.params = #[3, 29] := by kernel_rfl
@[simp] theorem nfree52 : f52.nfree = 0 := by kernel_rfl
theorem ntmps53 : Tryz.f53.ntmps = 5 := by kernel_rfl
theorem ntmps56 : Tryz.f56.ntmps = 9 := by kernel_rfl
theorem ntmps57 : Tryz.f57.ntmps = 7 := by kernel_rfl
theorem ntmps58 : Tryz.f58.ntmps = 23 := by kernel_rfl
theorem ntmps69 : Tryz.f69.ntmps = 21 := by kernel_rfl
theorem ntmps70 : Tryz.f70.ntmps = 18 := by kernel_rfl
theorem ntmps71 : Tryz.f71.ntmps = 16 := by kernel_rfl
theorem ntmps72 : Tryz.f72.ntmps = 5 := by kernel_rfl
theorem ntmps73 : Tryz.f73.ntmps = 48 := by kernel_rfl
theorem ntmps74 : Tryz.f74.ntmps = 40 := by kernel_rfl
theorem ntmps75 : Tryz.f75.ntmps = 35 := by kernel_rfl
theorem ntmps76 : Tryz.f76.ntmps = 3 := by kernel_rfl
theorem ntmps77 : Tryz.f77.ntmps = 5 := by kernel_rfl
theorem ntmps78 : Tryz.f78.ntmps = 28 := by kernel_rfl
theorem ntmps79 : Tryz.f79.ntmps = 37 := by kernel_rfl
theorem ntmps80 : Tryz.f80.ntmps = 38 := by kernel_rfl
theorem ntmps81 : Tryz.f81.ntmps = 60 := by kernel_rfl
@[simp] theorem ntmps86 : f86.ntmps = 36 := by kernel_rfl
@[simp] theorem results86 : f86.results = #[ResultVar.tmp 2] := by kernel_rfl
@[simp] theorem params86 : f86.params = #[132] := by kernel_rfl
@[simp] theorem nfree86 : f86.nfree = 0 := by kernel_rfl
theorem ntmps89 : Tryz.f89.ntmps = 9 := by kernel_rfl
theorem ntmps100 : Tryz.f100.ntmps = 5 := by kernel_rfl
theorem ntmps101 : Tryz.f101.ntmps = 38 := by kernel_rfl
theorem ntmps102 : Tryz.f102.ntmps = 26 := by kernel_rfl
theorem ntmps103 : Tryz.f103.ntmps = 10 := by kernel_rfl
theorem ntmps104 : Tryz.f104.ntmps = 24 := by kernel_rfl
theorem ntmps105 : Tryz.f105.ntmps = 16 := by kernel_rfl
theorem ntmps106 : Tryz.f106.ntmps = 27 := by kernel_rfl
theorem ntmps107 : Tryz.f107.ntmps = 19 := by kernel_rfl
theorem ntmps108 : Tryz.f108.ntmps = 6 := by kernel_rfl
theorem ntmps109 : Tryz.f109.ntmps = 6 := by kernel_rfl
theorem ntmps110 : Tryz.f110.ntmps = 22 := by kernel_rfl
theorem ntmps111 : Tryz.f111.ntmps = 6 := by kernel_rfl
theorem ntmps112 : Tryz.f112.ntmps = 14 := by kernel_rfl
theorem ntmps113 : Tryz.f113.ntmps = 40 := by kernel_rfl
theorem ntmps114 : Tryz.f114.ntmps = 11 := by kernel_rfl
theorem ntmps115 : Tryz.f115.ntmps = 40 := by kernel_rfl
theorem ntmps116 : Tryz.f116.ntmps = 13 := by kernel_rfl
theorem ntmps117 : Tryz.f117.ntmps = 21 := by kernel_rfl
theorem ntmps119 : Tryz.f119.ntmps = 8 := by kernel_rfl
@[simp] theorem ntmps120 : f120.ntmps = 9 := by kernel_rfl
@[simp] theorem results120 : f120.results = #[ResultVar.tmp 4] := by kernel_rfl
@[simp] theorem params120 : f120.params = #[22, 3] := by kernel_rfl
@[simp] theorem nfree120 : f120.nfree = 0 := by kernel_rfl
@[simp] theorem ntmps121 : f121.ntmps = 27 := by kernel_rfl
@[simp] theorem results121 : f121.results = #[ResultVar.tmp 4] := by kernel_rfl
@[simp] theorem params121 : f121.params = #[22, 3] := by kernel_rfl
@[simp] theorem nfree121 : f121.nfree = 0 := by kernel_rfl
theorem ntmps125 : Tryz.f125.ntmps = 5 := by kernel_rfl
theorem ntmps135 : Tryz.f135.ntmps = 12 := by kernel_rfl
theorem ntmps136 : Tryz.f136.ntmps = 17 := by kernel_rfl
theorem ntmps137 : Tryz.f137.ntmps = 33 := by kernel_rfl
theorem ntmps138 : Tryz.f138.ntmps = 9 := by kernel_rfl
theorem ntmps139 : Tryz.f139.ntmps = 13 := by kernel_rfl
theorem ntmps140 : Tryz.f140.ntmps = 23 := by kernel_rfl
theorem ntmps141 : Tryz.f141.ntmps = 5 := by kernel_rfl
theorem ntmps142 : Tryz.f142.ntmps = 32 := by kernel_rfl
theorem ntmps143 : Tryz.f143.ntmps = 9 := by kernel_rfl
theorem ntmps144 : Tryz.f144.ntmps = 5 := by kernel_rfl
theorem ntmps147 : Tryz.f147.ntmps = 31 := by kernel_rfl
theorem ntmps149 : Tryz.f149.ntmps = 36 := by kernel_rfl
theorem ntmps160 : Tryz.f160.ntmps = 16 := by kernel_rfl
theorem ntmps161 : Tryz.f161.ntmps = 36 := by kernel_rfl
theorem ntmps162 : Tryz.f162.ntmps = 5 := by kernel_rfl
theorem ntmps163 : Tryz.f163.ntmps = 20 := by kernel_rfl
theorem ntmps164 : Tryz.f164.ntmps = 44 := by kernel_rfl
theorem ntmps165 : Tryz.f165.ntmps = 13 := by kernel_rfl
theorem ntmps166 : Tryz.f166.ntmps = 19 := by kernel_rfl
theorem ntmps167 : Tryz.f167.ntmps = 20 := by kernel_rfl
theorem ntmps168 : Tryz.f168.ntmps = 14 := by kernel_rfl
theorem ntmps169 : Tryz.f169.ntmps = 5 := by kernel_rfl
theorem ntmps170 : Tryz.f170.ntmps = 22 := by kernel_rfl
theorem ntmps177 : Tryz.f177.ntmps = 5 := by kernel_rfl
theorem ntmps178 : Tryz.f178.ntmps = 28 := by kernel_rfl
theorem ntmps179 : Tryz.f179.ntmps = 28 := by kernel_rfl
theorem ntmps180 : Tryz.f180.ntmps = 18 := by kernel_rfl
theorem ntmps181 : Tryz.f181.ntmps = 25 := by kernel_rfl
theorem ntmps182 : Tryz.f182.ntmps = 28 := by kernel_rfl
theorem ntmps183 : Tryz.f183.ntmps = 34 := by kernel_rfl
theorem ntmps184 : Tryz.f184.ntmps = 16 := by kernel_rfl
theorem ntmps185 : Tryz.f185.ntmps = 6 := by kernel_rfl
theorem ntmps186 : Tryz.f186.ntmps = 12 := by kernel_rfl
theorem ntmps196 : Tryz.f196.ntmps = 13 := by kernel_rfl
theorem ntmps197 : Tryz.f197.ntmps = 4 := by kernel_rfl
theorem ntmps198 : Tryz.f198.ntmps = 12 := by kernel_rfl
theorem ntmps199 : Tryz.f199.ntmps = 35 := by kernel_rfl
theorem ntmps200 : Tryz.f200.ntmps = 26 := by kernel_rfl
theorem ntmps201 : Tryz.f201.ntmps = 23 := by kernel_rfl
theorem ntmps202 : Tryz.f202.ntmps = 22 := by kernel_rfl
theorem ntmps213 : Tryz.f213.ntmps = 19 := by kernel_rfl
theorem ntmps214 : Tryz.f214.ntmps = 36 := by kernel_rfl
theorem ntmps215 : Tryz.f215.ntmps = 11 := by kernel_rfl
theorem ntmps216 : Tryz.f216.ntmps = 9 := by kernel_rfl
theorem ntmps217 : Tryz.f217.ntmps = 24 := by kernel_rfl
theorem ntmps218 : Tryz.f218.ntmps = 20 := by kernel_rfl
theorem ntmps224 : Tryz.f224.ntmps = 17 := by kernel_rfl
theorem ntmps234 : Tryz.f234.ntmps = 11 := by kernel_rfl
theorem ntmps235 : Tryz.f235.ntmps = 7 := by kernel_rfl
@[simp] theorem call10 (a : Array Value) (w : World) : (callFunc 10 a).run prog w = .ok (.enter 10 a) w := call_at func10 (by kernel_rfl) (by kernel_rfl) a w
@[simp] theorem call100 (a : Array Value) (w : World) : (callFunc 100 a).run prog w = .ok (.enter 100 a) w := call_at func100 (by kernel_rfl) (by kernel_rfl) a w
@[simp] theorem call101 (a : Array Value) (w : World) : (callFunc 101 a).run prog w = .ok (.enter 101 a) w := call_at func101 (by kernel_rfl) (by kernel_rfl) a w
@[simp] theorem call102 (a : Array Value) (w : World) : (callFunc 102 a).run prog w = .ok (.enter 102 a) w := call_at func102 (by kernel_rfl) (by kernel_rfl) a w
@[simp] theorem call103 (a : Array Value) (w : World) : (callFunc 103 a).run prog w = .ok (.enter 103 a) w := call_at func103 (by kernel_rfl) (by kernel_rfl) a w
@[simp] theorem call104 (a : Array Value) (w : World) : (callFunc 104 a).run prog w = .ok (.enter 104 a) w := call_at func104 (by kernel_rfl) (by kernel_rfl) a w
@[simp] theorem call105 (a : Array Value) (w : World) : (callFunc 105 a).run prog w = .ok (.enter 105 a) w := call_at func105 (by kernel_rfl) (by kernel_rfl) a w
@[simp] theorem call106 (a : Array Value) (w : World) : (callFunc 106 a).run prog w = .ok (.enter 106 a) w := call_at func106 (by kernel_rfl) (by kernel_rfl) a w
@[simp] theorem call107 (a : Array Value) (w : World) : (callFunc 107 a).run prog w = .ok (.enter 107 a) w := call_at func107 (by kernel_rfl) (by kernel_rfl) a w
@[simp] theorem call108 (a : Array Value) (w : World) : (callFunc 108 a).run prog w = .ok (.enter 108 a) w := call_at func108 (by kernel_rfl) (by kernel_rfl) a w
@[simp] theorem call109 (a : Array Value) (w : World) : (callFunc 109 a).run prog w = .ok (.enter 109 a) w := call_at func109 (by kernel_rfl) (by kernel_rfl) a w
@[simp] theorem call110 (a : Array Value) (w : World) : (callFunc 110 a).run prog w = .ok (.enter 110 a) w := call_at func110 (by kernel_rfl) (by kernel_rfl) a w
@[simp] theorem call111 (a : Array Value) (w : World) : (callFunc 111 a).run prog w = .ok (.enter 111 a) w := call_at func111 (by kernel_rfl) (by kernel_rfl) a w
@[simp] theorem call112 (a : Array Value) (w : World) : (callFunc 112 a).run prog w = .ok (.enter 112 a) w := call_at func112 (by kernel_rfl) (by kernel_rfl) a w
@[simp] theorem call113 (a : Array Value) (w : World) : (callFunc 113 a).run prog w = .ok (.enter 113 a) w := call_at func113 (by kernel_rfl) (by kernel_rfl) a w
@[simp] theorem call114 (a : Array Value) (w : World) : (callFunc 114 a).run prog w = .ok (.enter 114 a) w := call_at func114 (by kernel_rfl) (by kernel_rfl) a w
@[simp] theorem call115 (a : Array Value) (w : World) : (callFunc 115 a).run prog w = .ok (.enter 115 a) w := call_at func115 (by kernel_rfl) (by kernel_rfl) a w
@[simp] theorem call116 (a : Array Value) (w : World) : (callFunc 116 a).run prog w = .ok (.enter 116 a) w := call_at func116 (by kernel_rfl) (by kernel_rfl) a w
@[simp] theorem call117 (a : Array Value) (w : World) : (callFunc 117 a).run prog w = .ok (.enter 117 a) w := call_at func117 (by kernel_rfl) (by kernel_rfl) a w
@[simp] theorem call119 (a : Array Value) (w : World) : (callFunc 119 a).run prog w = .ok (.enter 119 a) w := call_at func119 (by kernel_rfl) (by kernel_rfl) a w
@[simp] theorem call120 (a : Array Value) (w : World) : (callFunc 120 a).run prog w = .ok (.enter 120 a) w := call_at func120 (by kernel_rfl) (by kernel_rfl) a w
@[simp] theorem call121 (a : Array Value) (w : World) : (callFunc 121 a).run prog w = .ok (.enter 121 a) w := call_at func121 (by kernel_rfl) (by kernel_rfl) a w
@[simp] theorem call125 (a : Array Value) (w : World) : (callFunc 125 a).run prog w = .ok (.enter 125 a) w := call_at func125 (by kernel_rfl) (by kernel_rfl) a w
@[simp] theorem call135 (a : Array Value) (w : World) : (callFunc 135 a).run prog w = .ok (.enter 135 a) w := call_at func135 (by kernel_rfl) (by kernel_rfl) a w
@[simp] theorem call136 (a : Array Value) (w : World) : (callFunc 136 a).run prog w = .ok (.enter 136 a) w := call_at func136 (by kernel_rfl) (by kernel_rfl) a w
@[simp] theorem call137 (a : Array Value) (w : World) : (callFunc 137 a).run prog w = .ok (.enter 137 a) w := call_at func137 (by kernel_rfl) (by kernel_rfl) a w
@[simp] theorem call138 (a : Array Value) (w : World) : (callFunc 138 a).run prog w = .ok (.enter 138 a) w := call_at func138 (by kernel_rfl) (by kernel_rfl) a w
@[simp] theorem call139 (a : Array Value) (w : World) : (callFunc 139 a).run prog w = .ok (.enter 139 a) w := call_at func139 (by kernel_rfl) (by kernel_rfl) a w
@[simp] theorem call140 (a : Array Value) (w : World) : (callFunc 140 a).run prog w = .ok (.enter 140 a) w := call_at func140 (by kernel_rfl) (by kernel_rfl) a w
@[simp] theorem call141 (a : Array Value) (w : World) : (callFunc 141 a).run prog w = .ok (.enter 141 a) w := call_at func141 (by kernel_rfl) (by kernel_rfl) a w
@[simp] theorem call142 (a : Array Value) (w : World) : (callFunc 142 a).run prog w = .ok (.enter 142 a) w := call_at func142 (by kernel_rfl) (by kernel_rfl) a w
@[simp] theorem call143 (a : Array Value) (w : World) : (callFunc 143 a).run prog w = .ok (.enter 143 a) w := call_at func143 (by kernel_rfl) (by kernel_rfl) a w
@[simp] theorem call144 (a : Array Value) (w : World) : (callFunc 144 a).run prog w = .ok (.enter 144 a) w := call_at func144 (by kernel_rfl) (by kernel_rfl) a w
@[simp] theorem call149 (a : Array Value) (w : World) : (callFunc 149 a).run prog w = .ok (.enter 149 a) w := call_at func149 (by kernel_rfl) (by kernel_rfl) a w
@[simp] theorem call15 (a : Array Value) (w : World) : (callFunc 15 a).run prog w = .ok (.enter 15 a) w := call_at func15 (by kernel_rfl) (by kernel_rfl) a w
@[simp] theorem call16 (a : Array Value) (w : World) : (callFunc 16 a).run prog w = .ok (.enter 16 a) w := call_at func16 (by kernel_rfl) (by kernel_rfl) a w
@[simp] theorem call160 (a : Array Value) (w : World) : (callFunc 160 a).run prog w = .ok (.enter 160 a) w := call_at func160 (by kernel_rfl) (by kernel_rfl) a w
@[simp] theorem call161 (a : Array Value) (w : World) : (callFunc 161 a).run prog w = .ok (.enter 161 a) w := call_at func161 (by kernel_rfl) (by kernel_rfl) a w
@[simp] theorem call162 (a : Array Value) (w : World) : (callFunc 162 a).run prog w = .ok (.enter 162 a) w := call_at func162 (by kernel_rfl) (by kernel_rfl) a w
@[simp] theorem call163 (a : Array Value) (w : World) : (callFunc 163 a).run prog w = .ok (.enter 163 a) w := call_at func163 (by kernel_rfl) (by kernel_rfl) a w
@[simp] theorem call164 (a : Array Value) (w : World) : (callFunc 164 a).run prog w = .ok (.enter 164 a) w := call_at func164 (by kernel_rfl) (by kernel_rfl) a w
@[simp] theorem call165 (a : Array Value) (w : World) : (callFunc 165 a).run prog w = .ok (.enter 165 a) w := call_at func165 (by kernel_rfl) (by kernel_rfl) a w
@[simp] theorem call166 (a : Array Value) (w : World) : (callFunc 166 a).run prog w = .ok (.enter 166 a) w := call_at func166 (by kernel_rfl) (by kernel_rfl) a w
@[simp] theorem call167 (a : Array Value) (w : World) : (callFunc 167 a).run prog w = .ok (.enter 167 a) w := call_at func167 (by kernel_rfl) (by kernel_rfl) a w
@[simp] theorem call168 (a : Array Value) (w : World) : (callFunc 168 a).run prog w = .ok (.enter 168 a) w := call_at func168 (by kernel_rfl) (by kernel_rfl) a w
@[simp] theorem call169 (a : Array Value) (w : World) : (callFunc 169 a).run prog w = .ok (.enter 169 a) w := call_at func169 (by kernel_rfl) (by kernel_rfl) a w
@[simp] theorem call170 (a : Array Value) (w : World) : (callFunc 170 a).run prog w = .ok (.enter 170 a) w := call_at func170 (by kernel_rfl) (by kernel_rfl) a w
@[simp] theorem call177 (a : Array Value) (w : World) : (callFunc 177 a).run prog w = .ok (.enter 177 a) w := call_at func177 (by kernel_rfl) (by kernel_rfl) a w
@[simp] theorem call178 (a : Array Value) (w : World) : (callFunc 178 a).run prog w = .ok (.enter 178 a) w := call_at func178 (by kernel_rfl) (by kernel_rfl) a w
@[simp] theorem call179 (a : Array Value) (w : World) : (callFunc 179 a).run prog w = .ok (.enter 179 a) w := call_at func179 (by kernel_rfl) (by kernel_rfl) a w
@[simp] theorem call18 (a : Array Value) (w : World) : (callFunc 18 a).run prog w = .ok (.enter 18 a) w := call_at func18 (by kernel_rfl) (by kernel_rfl) a w
@[simp] theorem call180 (a : Array Value) (w : World) : (callFunc 180 a).run prog w = .ok (.enter 180 a) w := call_at func180 (by kernel_rfl) (by kernel_rfl) a w
@[simp] theorem call181 (a : Array Value) (w : World) : (callFunc 181 a).run prog w = .ok (.enter 181 a) w := call_at func181 (by kernel_rfl) (by kernel_rfl) a w
@[simp] theorem call182 (a : Array Value) (w : World) : (callFunc 182 a).run prog w = .ok (.enter 182 a) w := call_at func182 (by kernel_rfl) (by kernel_rfl) a w
@[simp] theorem call183 (a : Array Value) (w : World) : (callFunc 183 a).run prog w = .ok (.enter 183 a) w := call_at func183 (by kernel_rfl) (by kernel_rfl) a w
@[simp] theorem call184 (a : Array Value) (w : World) : (callFunc 184 a).run prog w = .ok (.enter 184 a) w := call_at func184 (by kernel_rfl) (by kernel_rfl) a w
@[simp] theorem call185 (a : Array Value) (w : World) : (callFunc 185 a).run prog w = .ok (.enter 185 a) w := call_at func185 (by kernel_rfl) (by kernel_rfl) a w
@[simp] theorem call186 (a : Array Value) (w : World) : (callFunc 186 a).run prog w = .ok (.enter 186 a) w := call_at func186 (by kernel_rfl) (by kernel_rfl) a w
@[simp] theorem call196 (a : Array Value) (w : World) : (callFunc 196 a).run prog w = .ok (.enter 196 a) w := call_at func196 (by kernel_rfl) (by kernel_rfl) a w
@[simp] theorem call197 (a : Array Value) (w : World) : (callFunc 197 a).run prog w = .ok (.enter 197 a) w := call_at func197 (by kernel_rfl) (by kernel_rfl) a w
@[simp] theorem call198 (a : Array Value) (w : World) : (callFunc 198 a).run prog w = .ok (.enter 198 a) w := call_at func198 (by kernel_rfl) (by kernel_rfl) a w
@[simp] theorem call199 (a : Array Value) (w : World) : (callFunc 199 a).run prog w = .ok (.enter 199 a) w := call_at func199 (by kernel_rfl) (by kernel_rfl) a w
@[simp] theorem call200 (a : Array Value) (w : World) : (callFunc 200 a).run prog w = .ok (.enter 200 a) w := call_at func200 (by kernel_rfl) (by kernel_rfl) a w
@[simp] theorem call201 (a : Array Value) (w : World) : (callFunc 201 a).run prog w = .ok (.enter 201 a) w := call_at func201 (by kernel_rfl) (by kernel_rfl) a w
@[simp] theorem call202 (a : Array Value) (w : World) : (callFunc 202 a).run prog w = .ok (.enter 202 a) w := call_at func202 (by kernel_rfl) (by kernel_rfl) a w
@[simp] theorem call21 (a : Array Value) (w : World) : (callFunc 21 a).run prog w = .ok (.enter 21 a) w := call_at func21 (by kernel_rfl) (by kernel_rfl) a w
@[simp] theorem call214 (a : Array Value) (w : World) : (callFunc 214 a).run prog w = .ok (.enter 214 a) w := call_at func214 (by kernel_rfl) (by kernel_rfl) a w
@[simp] theorem call215 (a : Array Value) (w : World) : (callFunc 215 a).run prog w = .ok (.enter 215 a) w := call_at func215 (by kernel_rfl) (by kernel_rfl) a w
@[simp] theorem call216 (a : Array Value) (w : World) : (callFunc 216 a).run prog w = .ok (.enter 216 a) w := call_at func216 (by kernel_rfl) (by kernel_rfl) a w
@[simp] theorem call217 (a : Array Value) (w : World) : (callFunc 217 a).run prog w = .ok (.enter 217 a) w := call_at func217 (by kernel_rfl) (by kernel_rfl) a w
@[simp] theorem call218 (a : Array Value) (w : World) : (callFunc 218 a).run prog w = .ok (.enter 218 a) w := call_at func218 (by kernel_rfl) (by kernel_rfl) a w
@[simp] theorem call224 (a : Array Value) (w : World) : (callFunc 224 a).run prog w = .ok (.enter 224 a) w := call_at func224 (by kernel_rfl) (by kernel_rfl) a w
@[simp] theorem call23 (a : Array Value) (w : World) : (callFunc 23 a).run prog w = .ok (.enter 23 a) w := call_at func23 (by kernel_rfl) (by kernel_rfl) a w
@[simp] theorem call234 (a : Array Value) (w : World) : (callFunc 234 a).run prog w = .ok (.enter 234 a) w := call_at func234 (by kernel_rfl) (by kernel_rfl) a w
@[simp] theorem call235 (a : Array Value) (w : World) : (callFunc 235 a).run prog w = .ok (.enter 235 a) w := call_at func235 (by kernel_rfl) (by kernel_rfl) a w
@[simp] theorem call24 (a : Array Value) (w : World) : (callFunc 24 a).run prog w = .ok (.enter 24 a) w := call_at func24 (by kernel_rfl) (by kernel_rfl) a w
@[simp] theorem call25 (a : Array Value) (w : World) : (callFunc 25 a).run prog w = .ok (.enter 25 a) w := call_at func25 (by kernel_rfl) (by kernel_rfl) a w
@[simp] theorem call26 (a : Array Value) (w : World) : (callFunc 26 a).run prog w = .ok (.enter 26 a) w := call_at func26 (by kernel_rfl) (by kernel_rfl) a w
@[simp] theorem call27 (a : Array Value) (w : World) : (callFunc 27 a).run prog w = .ok (.enter 27 a) w := call_at func27 (by kernel_rfl) (by kernel_rfl) a w
@[simp] theorem call30 (a : Array Value) (w : World) : (callFunc 30 a).run prog w = .ok (.enter 30 a) w := call_at func30 (by kernel_rfl) (by kernel_rfl) a w
@[simp] theorem call31 (a : Array Value) (w : World) : (callFunc 31 a).run prog w = .ok (.enter 31 a) w := call_at func31 (by kernel_rfl) (by kernel_rfl) a w
@[simp] theorem call39 (a : Array Value) (w : World) : (callFunc 39 a).run prog w = .ok (.enter 39 a) w := call_at func39 (by kernel_rfl) (by kernel_rfl) a w
@[simp] theorem call41 (a : Array Value) (w : World) : (callFunc 41 a).run prog w = .ok (.enter 41 a) w := call_at func41 (by kernel_rfl) (by kernel_rfl) a w
@[simp] theorem call42 (a : Array Value) (w : World) : (callFunc 42 a).run prog w = .ok (.enter 42 a) w := call_at func42 (by kernel_rfl) (by kernel_rfl) a w
@[simp] theorem call43 (a : Array Value) (w : World) : (callFunc 43 a).run prog w = .ok (.enter 43 a) w := call_at func43 (by kernel_rfl) (by kernel_rfl) a w
@[simp] theorem call44 (a : Array Value) (w : World) : (callFunc 44 a).run prog w = .ok (.enter 44 a) w := call_at func44 (by kernel_rfl) (by kernel_rfl) a w
@[simp] theorem call45 (a : Array Value) (w : World) : (callFunc 45 a).run prog w = .ok (.enter 45 a) w := call_at func45 (by kernel_rfl) (by kernel_rfl) a w
@[simp] theorem call46 (a : Array Value) (w : World) : (callFunc 46 a).run prog w = .ok (.enter 46 a) w := call_at func46 (by kernel_rfl) (by kernel_rfl) a w
@[simp] theorem call47 (a : Array Value) (w : World) : (callFunc 47 a).run prog w = .ok (.enter 47 a) w := call_at func47 (by kernel_rfl) (by kernel_rfl) a w
@[simp] theorem call48 (a : Array Value) (w : World) : (callFunc 48 a).run prog w = .ok (.enter 48 a) w := call_at func48 (by kernel_rfl) (by kernel_rfl) a w
@[simp] theorem call49 (a : Array Value) (w : World) : (callFunc 49 a).run prog w = .ok (.enter 49 a) w := call_at func49 (by kernel_rfl) (by kernel_rfl) a w
@[simp] theorem call50 (a : Array Value) (w : World) : (callFunc 50 a).run prog w = .ok (.enter 50 a) w := call_at func50 (by kernel_rfl) (by kernel_rfl) a w
@[simp] theorem call51 (a : Array Value) (w : World) : (callFunc 51 a).run prog w = .ok (.enter 51 a) w := call_at func51 (by kernel_rfl) (by kernel_rfl) a w
@[simp] theorem call56 (a : Array Value) (w : World) : (callFunc 56 a).run prog w = .ok (.enter 56 a) w := call_at func56 (by kernel_rfl) (by kernel_rfl) a w
@[simp] theorem call57 (a : Array Value) (w : World) : (callFunc 57 a).run prog w = .ok (.enter 57 a) w := call_at func57 (by kernel_rfl) (by kernel_rfl) a w
@[simp] theorem call58 (a : Array Value) (w : World) : (callFunc 58 a).run prog w = .ok (.enter 58 a) w := call_at func58 (by kernel_rfl) (by kernel_rfl) a w
@[simp] theorem call69 (a : Array Value) (w : World) : (callFunc 69 a).run prog w = .ok (.enter 69 a) w := call_at func69 (by kernel_rfl) (by kernel_rfl) a w
@[simp] theorem call7 (a : Array Value) (w : World) : (callFunc 7 a).run prog w = .ok (.enter 7 a) w := call_at func7 (by kernel_rfl) (by kernel_rfl) a w
@[simp] theorem call70 (a : Array Value) (w : World) : (callFunc 70 a).run prog w = .ok (.enter 70 a) w := call_at func70 (by kernel_rfl) (by kernel_rfl) a w
@[simp] theorem call71 (a : Array Value) (w : World) : (callFunc 71 a).run prog w = .ok (.enter 71 a) w := call_at func71 (by kernel_rfl) (by kernel_rfl) a w
@[simp] theorem call72 (a : Array Value) (w : World) : (callFunc 72 a).run prog w = .ok (.enter 72 a) w := call_at func72 (by kernel_rfl) (by kernel_rfl) a w
@[simp] theorem call73 (a : Array Value) (w : World) : (callFunc 73 a).run prog w = .ok (.enter 73 a) w := call_at func73 (by kernel_rfl) (by kernel_rfl) a w
@[simp] theorem call74 (a : Array Value) (w : World) : (callFunc 74 a).run prog w = .ok (.enter 74 a) w := call_at func74 (by kernel_rfl) (by kernel_rfl) a w
@[simp] theorem call75 (a : Array Value) (w : World) : (callFunc 75 a).run prog w = .ok (.enter 75 a) w := call_at func75 (by kernel_rfl) (by kernel_rfl) a w
@[simp] theorem call76 (a : Array Value) (w : World) : (callFunc 76 a).run prog w = .ok (.enter 76 a) w := call_at func76 (by kernel_rfl) (by kernel_rfl) a w
@[simp] theorem call77 (a : Array Value) (w : World) : (callFunc 77 a).run prog w = .ok (.enter 77 a) w := call_at func77 (by kernel_rfl) (by kernel_rfl) a w
@[simp] theorem call78 (a : Array Value) (w : World) : (callFunc 78 a).run prog w = .ok (.enter 78 a) w := call_at func78 (by kernel_rfl) (by kernel_rfl) a w
@[simp] theorem call8 (a : Array Value) (w : World) : (callFunc 8 a).run prog w = .ok (.enter 8 a) w := call_at func8 (by kernel_rfl) (by kernel_rfl) a w
@[simp] theorem call80 (a : Array Value) (w : World) : (callFunc 80 a).run prog w = .ok (.enter 80 a) w := call_at func80 (by kernel_rfl) (by kernel_rfl) a w
@[simp] theorem call81 (a : Array Value) (w : World) : (callFunc 81 a).run prog w = .ok (.enter 81 a) w := call_at func81 (by kernel_rfl) (by kernel_rfl) a w
@[simp] theorem call86 (a : Array Value) (w : World) : (callFunc 86 a).run prog w = .ok (.enter 86 a) w := call_at func86 (by kernel_rfl) (by kernel_rfl) a w
@[simp] theorem call89 (a : Array Value) (w : World) : (callFunc 89 a).run prog w = .ok (.enter 89 a) w := call_at func89 (by kernel_rfl) (by kernel_rfl) a w
@[simp] theorem call9 (a : Array Value) (w : World) : (callFunc 9 a).run prog w = .ok (.enter 9 a) w := call_at func9 (by kernel_rfl) (by kernel_rfl) a w
theorem hard : Tryz.prog.funcs.size = 311 := by kernel_rfl
end
end Star
end Go.Proofs.YtenffmfklmialaaGreatDoor
