/- Made by genstar.py: the private program, and what the loader's facts say of the real one, of it. -/
import Derived.Test.YtopelmhpahohfaaDoorBna
import Derived.Test.YtopelmhpahohfaaDoorRows
namespace Go.Proofs.YtopelmhpahohfaaDoor
set_option linter.unusedVariables false
set_option maxRecDepth 20000
namespace Star
open Co
noncomputable section
noncomputable def prog : Program := starProg 12 110 111 Tryd.prog #[]
noncomputable def f64 : Func := { Tryd.f64 with body := some ((Code.region 0 #[{ dst := some 2, op := Op.box 36 (Operand.tmp 0), type := 0, pos := "iter.go:97", after := #[], guard := none }, { dst := some 3, op := Op.box 3 (Operand.tmp 1), type := 0, pos := "iter.go:97", after := #[], guard := none }, { dst := some 4, op := Op.assign (Operand.const Value.nilFunc), type := 101, pos := "iter.go:97", after := #[], guard := none }] false).seq (((Code.region 1 #[{ dst := some 5, op := Op.load 3 (Operand.tmp 3), type := 3, pos := "iter.go:98", after := #[], guard := none }, { dst := some 6, op := Op.binOp BinOp.lss 3 (Operand.tmp 5) (Operand.const (Value.int IntKind.i64 1)) 3, type := 4, pos := "iter.go:98", after := #[{ on := 0, ground := Ground.data }], guard := none }] false).seq (Code.cond (Operand.tmp 6) (Code.region 2 #[{ dst := some 7, op := Op.makeInterface 9 (Operand.const (Value.string { data := #[99, 97, 110, 110, 111, 116, 32, 98, 101, 32, 108, 101, 115, 115, 32, 116, 104, 97, 110, 32, 49] })), type := 20, pos := "iter.go:99", after := #[], guard := none }, { dst := none, op := tagOp 4, type := 0, pos := "iter.go:99", after := #[{ on := 0, ground := Ground.data }], guard := none }] false) Code.skip)).seq ((Code.region 3 #[{ dst := some 8, op := Op.makeFunc (Fn.func 72) #[] #[Operand.tmp 2, Operand.tmp 3], type := 100, pos := "iter.go:102", after := #[], guard := none }, { dst := some 4, op := Op.assign (Operand.tmp 8), type := 101, pos := "iter.go:102", after := #[{ on := 0, ground := Ground.data }, { on := 0, ground := Ground.phase }], guard := none }] false).seq Code.ret))) }
@[simp] theorem call10 : ∀ (args : Array Value) (w : World), Sem.run Star.prog (callFunc 10 args) w = Result.ok (Next.enter 10 args) w := by intro args w; kernel_rfl
@[simp] theorem call109 : ∀ (args : Array Value) (w : World), Sem.run Star.prog (callFunc 109 args) w = Result.ok (Next.enter 109 args) w := by intro args w; kernel_rfl
@[simp] theorem call11 : ∀ (args : Array Value) (w : World), Sem.run Star.prog (callFunc 11 args) w = Result.ok (Next.enter 11 args) w := by intro args w; kernel_rfl
@[simp] theorem call12 : ∀ (args : Array Value) (w : World), Sem.run Star.prog (callFunc 12 args) w = Result.ok (Next.enter 12 args) w := by intro args w; kernel_rfl
@[simp] theorem call13 : ∀ (args : Array Value) (w : World), Sem.run Star.prog (callFunc 13 args) w = Result.ok (Next.enter 13 args) w := by intro args w; kernel_rfl
@[simp] theorem call14 : ∀ (args : Array Value) (w : World), Sem.run Star.prog (callFunc 14 args) w = Result.ok (Next.enter 14 args) w := by intro args w; kernel_rfl
@[simp] theorem call15 : ∀ (args : Array Value) (w : World), Sem.run Star.prog (callFunc 15 args) w = Result.ok (Next.enter 15 args) w := by intro args w; kernel_rfl
@[simp] theorem call16 : ∀ (args : Array Value) (w : World), Sem.run Star.prog (callFunc 16 args) w = Result.ok (Next.enter 16 args) w := by intro args w; kernel_rfl
@[simp] theorem call17 : ∀ (args : Array Value) (w : World), Sem.run Star.prog (callFunc 17 args) w = Result.ok (Next.enter 17 args) w := by intro args w; kernel_rfl
@[simp] theorem call18 : ∀ (args : Array Value) (w : World), Sem.run Star.prog (callFunc 18 args) w = Result.ok (Next.enter 18 args) w := by intro args w; kernel_rfl
@[simp] theorem call19 : ∀ (args : Array Value) (w : World), Sem.run Star.prog (callFunc 19 args) w = Result.ok (Next.enter 19 args) w := by intro args w; kernel_rfl
@[simp] theorem call2 : ∀ (args : Array Value) (w : World), Sem.run Star.prog (callFunc 2 args) w = Result.ok (Next.enter 2 args) w := by intro args w; kernel_rfl
@[simp] theorem call20 : ∀ (args : Array Value) (w : World), Sem.run Star.prog (callFunc 20 args) w = Result.ok (Next.enter 20 args) w := by intro args w; kernel_rfl
@[simp] theorem call21 : ∀ (args : Array Value) (w : World), Sem.run Star.prog (callFunc 21 args) w = Result.ok (Next.enter 21 args) w := by intro args w; kernel_rfl
@[simp] theorem call22 : ∀ (args : Array Value) (w : World), Sem.run Star.prog (callFunc 22 args) w = Result.ok (Next.enter 22 args) w := by intro args w; kernel_rfl
@[simp] theorem call23 : ∀ (args : Array Value) (w : World), Sem.run Star.prog (callFunc 23 args) w = Result.ok (Next.enter 23 args) w := by intro args w; kernel_rfl
@[simp] theorem call24 : ∀ (args : Array Value) (w : World), Sem.run Star.prog (callFunc 24 args) w = Result.ok (Next.enter 24 args) w := by intro args w; kernel_rfl
@[simp] theorem call25 : ∀ (args : Array Value) (w : World), Sem.run Star.prog (callFunc 25 args) w = Result.ok (Next.enter 25 args) w := by intro args w; kernel_rfl
@[simp] theorem call26 : ∀ (args : Array Value) (w : World), Sem.run Star.prog (callFunc 26 args) w = Result.ok (Next.enter 26 args) w := by intro args w; kernel_rfl
@[simp] theorem call27 : ∀ (args : Array Value) (w : World), Sem.run Star.prog (callFunc 27 args) w = Result.ok (Next.enter 27 args) w := by intro args w; kernel_rfl
@[simp] theorem call28 : ∀ (args : Array Value) (w : World), Sem.run Star.prog (callFunc 28 args) w = Result.ok (Next.enter 28 args) w := by intro args w; kernel_rfl
@[simp] theorem call29 : ∀ (args : Array Value) (w : World), Sem.run Star.prog (callFunc 29 args) w = Result.ok (Next.enter 29 args) w := by intro args w; kernel_rfl
@[simp] theorem call3 : ∀ (args : Array Value) (w : World), Sem.run Star.prog (callFunc 3 args) w = Result.ok (Next.enter 3 args) w := by intro args w; kernel_rfl
@[simp] theorem call30 : ∀ (args : Array Value) (w : World), Sem.run Star.prog (callFunc 30 args) w = Result.ok (Next.enter 30 args) w := by intro args w; kernel_rfl
@[simp] theorem call31 : ∀ (args : Array Value) (w : World), Sem.run Star.prog (callFunc 31 args) w = Result.ok (Next.enter 31 args) w := by intro args w; kernel_rfl
@[simp] theorem call32 : ∀ (args : Array Value) (w : World), Sem.run Star.prog (callFunc 32 args) w = Result.ok (Next.enter 32 args) w := by intro args w; kernel_rfl
@[simp] theorem call33 : ∀ (args : Array Value) (w : World), Sem.run Star.prog (callFunc 33 args) w = Result.ok (Next.enter 33 args) w := by intro args w; kernel_rfl
@[simp] theorem call34 : ∀ (args : Array Value) (w : World), Sem.run Star.prog (callFunc 34 args) w = Result.ok (Next.enter 34 args) w := by intro args w; kernel_rfl
@[simp] theorem call35 : ∀ (args : Array Value) (w : World), Sem.run Star.prog (callFunc 35 args) w = Result.ok (Next.enter 35 args) w := by intro args w; kernel_rfl
@[simp] theorem call36 : ∀ (args : Array Value) (w : World), Sem.run Star.prog (callFunc 36 args) w = Result.ok (Next.enter 36 args) w := by intro args w; kernel_rfl
@[simp] theorem call37 : ∀ (args : Array Value) (w : World), Sem.run Star.prog (callFunc 37 args) w = Result.ok (Next.enter 37 args) w := by intro args w; kernel_rfl
@[simp] theorem call38 : ∀ (args : Array Value) (w : World), Sem.run Star.prog (callFunc 38 args) w = Result.ok (Next.enter 38 args) w := by intro args w; kernel_rfl
@[simp] theorem call39 : ∀ (args : Array Value) (w : World), Sem.run Star.prog (callFunc 39 args) w = Result.ok (Next.enter 39 args) w := by intro args w; kernel_rfl
@[simp] theorem call4 : ∀ (args : Array Value) (w : World), Sem.run Star.prog (callFunc 4 args) w = Result.ok (Next.enter 4 args) w := by intro args w; kernel_rfl
@[simp] theorem call40 : ∀ (args : Array Value) (w : World), Sem.run Star.prog (callFunc 40 args) w = Result.ok (Next.enter 40 args) w := by intro args w; kernel_rfl
@[simp] theorem call41 : ∀ (args : Array Value) (w : World), Sem.run Star.prog (callFunc 41 args) w = Result.ok (Next.enter 41 args) w := by intro args w; kernel_rfl
@[simp] theorem call42 : ∀ (args : Array Value) (w : World), Sem.run Star.prog (callFunc 42 args) w = Result.ok (Next.enter 42 args) w := by intro args w; kernel_rfl
@[simp] theorem call43 : ∀ (args : Array Value) (w : World), Sem.run Star.prog (callFunc 43 args) w = Result.ok (Next.enter 43 args) w := by intro args w; kernel_rfl
@[simp] theorem call44 : ∀ (args : Array Value) (w : World), Sem.run Star.prog (callFunc 44 args) w = Result.ok (Next.enter 44 args) w := by intro args w; kernel_rfl
@[simp] theorem call45 : ∀ (args : Array Value) (w : World), Sem.run Star.prog (callFunc 45 args) w = Result.ok (Next.enter 45 args) w := by intro args w; kernel_rfl
@[simp] theorem call46 : ∀ (args : Array Value) (w : World), Sem.run Star.prog (callFunc 46 args) w = Result.ok (Next.enter 46 args) w := by intro args w; kernel_rfl
@[simp] theorem call47 : ∀ (args : Array Value) (w : World), Sem.run Star.prog (callFunc 47 args) w = Result.ok (Next.enter 47 args) w := by intro args w; kernel_rfl
@[simp] theorem call48 : ∀ (args : Array Value) (w : World), Sem.run Star.prog (callFunc 48 args) w = Result.ok (Next.enter 48 args) w := by intro args w; kernel_rfl
@[simp] theorem call49 : ∀ (args : Array Value) (w : World), Sem.run Star.prog (callFunc 49 args) w = Result.ok (Next.enter 49 args) w := by intro args w; kernel_rfl
@[simp] theorem call5 : ∀ (args : Array Value) (w : World), Sem.run Star.prog (callFunc 5 args) w = Result.ok (Next.enter 5 args) w := by intro args w; kernel_rfl
@[simp] theorem call50 : ∀ (args : Array Value) (w : World), Sem.run Star.prog (callFunc 50 args) w = Result.ok (Next.enter 50 args) w := by intro args w; kernel_rfl
@[simp] theorem call51 : ∀ (args : Array Value) (w : World), Sem.run Star.prog (callFunc 51 args) w = Result.ok (Next.enter 51 args) w := by intro args w; kernel_rfl
@[simp] theorem call52 : ∀ (args : Array Value) (w : World), Sem.run Star.prog (callFunc 52 args) w = Result.ok (Next.enter 52 args) w := by intro args w; kernel_rfl
@[simp] theorem call53 : ∀ (args : Array Value) (w : World), Sem.run Star.prog (callFunc 53 args) w = Result.ok (Next.enter 53 args) w := by intro args w; kernel_rfl
@[simp] theorem call54 : ∀ (args : Array Value) (w : World), Sem.run Star.prog (callFunc 54 args) w = Result.ok (Next.enter 54 args) w := by intro args w; kernel_rfl
@[simp] theorem call55 : ∀ (args : Array Value) (w : World), Sem.run Star.prog (callFunc 55 args) w = Result.ok (Next.enter 55 args) w := by intro args w; kernel_rfl
@[simp] theorem call56 : ∀ (args : Array Value) (w : World), Sem.run Star.prog (callFunc 56 args) w = Result.ok (Next.enter 56 args) w := by intro args w; kernel_rfl
@[simp] theorem call57 : ∀ (args : Array Value) (w : World), Sem.run Star.prog (callFunc 57 args) w = Result.ok (Next.enter 57 args) w := by intro args w; kernel_rfl
@[simp] theorem call58 : ∀ (args : Array Value) (w : World), Sem.run Star.prog (callFunc 58 args) w = Result.ok (Next.enter 58 args) w := by intro args w; kernel_rfl
@[simp] theorem call59 : ∀ (args : Array Value) (w : World), Sem.run Star.prog (callFunc 59 args) w = Result.ok (Next.enter 59 args) w := by intro args w; kernel_rfl
@[simp] theorem call6 : ∀ (args : Array Value) (w : World), Sem.run Star.prog (callFunc 6 args) w = Result.ok (Next.enter 6 args) w := by intro args w; kernel_rfl
@[simp] theorem call60 : ∀ (args : Array Value) (w : World), Sem.run Star.prog (callFunc 60 args) w = Result.ok (Next.enter 60 args) w := by intro args w; kernel_rfl
@[simp] theorem call61 : ∀ (args : Array Value) (w : World), Sem.run Star.prog (callFunc 61 args) w = Result.ok (Next.enter 61 args) w := by intro args w; kernel_rfl
@[simp] theorem call62 : ∀ (args : Array Value) (w : World), Sem.run Star.prog (callFunc 62 args) w = Result.ok (Next.enter 62 args) w := by intro args w; kernel_rfl
@[simp] theorem call63 : ∀ (args : Array Value) (w : World), Sem.run Star.prog (callFunc 63 args) w = Result.ok (Next.enter 63 args) w := by intro args w; kernel_rfl
@[simp] theorem call64 : ∀ (args : Array Value) (w : World), Sem.run Star.prog (callFunc 64 args) w = Result.ok (Next.enter 64 args) w := by intro args w; kernel_rfl
@[simp] theorem call65 : ∀ (args : Array Value) (w : World), Sem.run Star.prog (callFunc 65 args) w = Result.ok (Next.enter 65 args) w := by intro args w; kernel_rfl
@[simp] theorem call66 : ∀ (args : Array Value) (w : World), Sem.run Star.prog (callFunc 66 args) w = Result.ok (Next.enter 66 args) w := by intro args w; kernel_rfl
@[simp] theorem call67 : ∀ (args : Array Value) (w : World), Sem.run Star.prog (callFunc 67 args) w = Result.ok (Next.enter 67 args) w := by intro args w; kernel_rfl
@[simp] theorem call68 : ∀ (args : Array Value) (w : World), Sem.run Star.prog (callFunc 68 args) w = Result.ok (Next.enter 68 args) w := by intro args w; kernel_rfl
@[simp] theorem call69 : ∀ (args : Array Value) (w : World), Sem.run Star.prog (callFunc 69 args) w = Result.ok (Next.enter 69 args) w := by intro args w; kernel_rfl
@[simp] theorem call7 : ∀ (args : Array Value) (w : World), Sem.run Star.prog (callFunc 7 args) w = Result.ok (Next.enter 7 args) w := by intro args w; kernel_rfl
@[simp] theorem call70 : ∀ (args : Array Value) (w : World), Sem.run Star.prog (callFunc 70 args) w = Result.ok (Next.enter 70 args) w := by intro args w; kernel_rfl
@[simp] theorem call71 : ∀ (args : Array Value) (w : World), Sem.run Star.prog (callFunc 71 args) w = Result.ok (Next.enter 71 args) w := by intro args w; kernel_rfl
@[simp] theorem call72 : ∀ (args : Array Value) (w : World), Sem.run Star.prog (callFunc 72 args) w = Result.ok (Next.enter 72 args) w := by intro args w; kernel_rfl
@[simp] theorem call73 : ∀ (args : Array Value) (w : World), Sem.run Star.prog (callFunc 73 args) w = Result.ok (Next.enter 73 args) w := by intro args w; kernel_rfl
@[simp] theorem call74 : ∀ (args : Array Value) (w : World), Sem.run Star.prog (callFunc 74 args) w = Result.ok (Next.enter 74 args) w := by intro args w; kernel_rfl
@[simp] theorem call75 : ∀ (args : Array Value) (w : World), Sem.run Star.prog (callFunc 75 args) w = Result.ok (Next.enter 75 args) w := by intro args w; kernel_rfl
@[simp] theorem call76 : ∀ (args : Array Value) (w : World), Sem.run Star.prog (callFunc 76 args) w = Result.ok (Next.enter 76 args) w := by intro args w; kernel_rfl
@[simp] theorem call77 : ∀ (args : Array Value) (w : World), Sem.run Star.prog (callFunc 77 args) w = Result.ok (Next.enter 77 args) w := by intro args w; kernel_rfl
@[simp] theorem call78 : ∀ (args : Array Value) (w : World), Sem.run Star.prog (callFunc 78 args) w = Result.ok (Next.enter 78 args) w := by intro args w; kernel_rfl
@[simp] theorem call79 : ∀ (args : Array Value) (w : World), Sem.run Star.prog (callFunc 79 args) w = Result.ok (Next.enter 79 args) w := by intro args w; kernel_rfl
@[simp] theorem call8 : ∀ (args : Array Value) (w : World), Sem.run Star.prog (callFunc 8 args) w = Result.ok (Next.enter 8 args) w := by intro args w; kernel_rfl
@[simp] theorem call80 : ∀ (args : Array Value) (w : World), Sem.run Star.prog (callFunc 80 args) w = Result.ok (Next.enter 80 args) w := by intro args w; kernel_rfl
@[simp] theorem call81 : ∀ (args : Array Value) (w : World), Sem.run Star.prog (callFunc 81 args) w = Result.ok (Next.enter 81 args) w := by intro args w; kernel_rfl
@[simp] theorem call82 : ∀ (args : Array Value) (w : World), Sem.run Star.prog (callFunc 82 args) w = Result.ok (Next.enter 82 args) w := by intro args w; kernel_rfl
@[simp] theorem call83 : ∀ (args : Array Value) (w : World), Sem.run Star.prog (callFunc 83 args) w = Result.ok (Next.enter 83 args) w := by intro args w; kernel_rfl
@[simp] theorem call84 : ∀ (args : Array Value) (w : World), Sem.run Star.prog (callFunc 84 args) w = Result.ok (Next.enter 84 args) w := by intro args w; kernel_rfl
@[simp] theorem call85 : ∀ (args : Array Value) (w : World), Sem.run Star.prog (callFunc 85 args) w = Result.ok (Next.enter 85 args) w := by intro args w; kernel_rfl
@[simp] theorem call86 : ∀ (args : Array Value) (w : World), Sem.run Star.prog (callFunc 86 args) w = Result.ok (Next.enter 86 args) w := by intro args w; kernel_rfl
@[simp] theorem call87 : ∀ (args : Array Value) (w : World), Sem.run Star.prog (callFunc 87 args) w = Result.ok (Next.enter 87 args) w := by intro args w; kernel_rfl
@[simp] theorem call88 : ∀ (args : Array Value) (w : World), Sem.run Star.prog (callFunc 88 args) w = Result.ok (Next.enter 88 args) w := by intro args w; kernel_rfl
@[simp] theorem call9 : ∀ (args : Array Value) (w : World), Sem.run Star.prog (callFunc 9 args) w = Result.ok (Next.enter 9 args) w := by intro args w; kernel_rfl
@[simp] theorem eqGuardType115 : Star.prog.eqGuardType Star.prog.depth 115 = false := by kernel_rfl
@[simp] theorem eqGuardType116 : Star.prog.eqGuardType Star.prog.depth 116 = false := by kernel_rfl
@[simp] theorem eqGuardType121 : Star.prog.eqGuardType Star.prog.depth 121 = false := by kernel_rfl
@[simp] theorem eqGuardType122 : Star.prog.eqGuardType Star.prog.depth 122 = false := by kernel_rfl
@[simp] theorem eqGuardType123 : Star.prog.eqGuardType Star.prog.depth 123 = false := by kernel_rfl
@[simp] theorem eqGuardType124 : Star.prog.eqGuardType Star.prog.depth 124 = false := by kernel_rfl
@[simp] theorem eqGuardType125 : Star.prog.eqGuardType Star.prog.depth 125 = false := by kernel_rfl
@[simp] theorem eqGuardType13 : Star.prog.eqGuardType Star.prog.depth 13 = false := by kernel_rfl
@[simp] theorem eqGuardType133 : Star.prog.eqGuardType Star.prog.depth 133 = false := by kernel_rfl
@[simp] theorem eqGuardType134 : Star.prog.eqGuardType Star.prog.depth 134 = false := by kernel_rfl
@[simp] theorem eqGuardType14 : Star.prog.eqGuardType Star.prog.depth 14 = false := by kernel_rfl
@[simp] theorem eqGuardType18 : Star.prog.eqGuardType Star.prog.depth 18 = false := by kernel_rfl
@[simp] theorem eqGuardType19 : Star.prog.eqGuardType Star.prog.depth 19 = false := by kernel_rfl
@[simp] theorem eqGuardType23 : Star.prog.eqGuardType Star.prog.depth 23 = false := by kernel_rfl
@[simp] theorem eqGuardType24 : Star.prog.eqGuardType Star.prog.depth 24 = false := by kernel_rfl
@[simp] theorem eqGuardType25 : Star.prog.eqGuardType Star.prog.depth 25 = false := by kernel_rfl
@[simp] theorem eqGuardType26 : Star.prog.eqGuardType Star.prog.depth 26 = false := by kernel_rfl
@[simp] theorem eqGuardType37 : Star.prog.eqGuardType Star.prog.depth 37 = false := by kernel_rfl
@[simp] theorem eqGuardType38 : Star.prog.eqGuardType Star.prog.depth 38 = false := by kernel_rfl
@[simp] theorem eqGuardType44 : Star.prog.eqGuardType Star.prog.depth 44 = false := by kernel_rfl
@[simp] theorem eqGuardType45 : Star.prog.eqGuardType Star.prog.depth 45 = false := by kernel_rfl
@[simp] theorem eqGuardType55 : Star.prog.eqGuardType Star.prog.depth 55 = false := by kernel_rfl
@[simp] theorem eqGuardType61 : Star.prog.eqGuardType Star.prog.depth 61 = false := by kernel_rfl
@[simp] theorem eqGuardType62 : Star.prog.eqGuardType Star.prog.depth 62 = false := by kernel_rfl
@[simp] theorem eqGuardType7 : Star.prog.eqGuardType Star.prog.depth 7 = false := by kernel_rfl
@[simp] theorem eqGuardType77 : Star.prog.eqGuardType Star.prog.depth 77 = false := by kernel_rfl
@[simp] theorem eqGuardType8 : Star.prog.eqGuardType Star.prog.depth 8 = false := by kernel_rfl
@[simp] theorem eqGuardType89 : Star.prog.eqGuardType Star.prog.depth 89 = false := by kernel_rfl
@[simp] theorem eqGuardType95 : Star.prog.eqGuardType Star.prog.depth 95 = false := by kernel_rfl
@[simp] theorem eqGuardType98 : Star.prog.eqGuardType Star.prog.depth 98 = false := by kernel_rfl
@[simp] theorem func0 : Star.prog.funcs[0]? = some Tryd.f0 := by kernel_rfl
@[simp] theorem func1 : Star.prog.funcs[1]? = some Tryd.f1 := by kernel_rfl
@[simp] theorem func10 : Star.prog.funcs[10]? = some Tryd.f10 := by kernel_rfl
@[simp] theorem func100 : Star.prog.funcs[100]? = some Tryd.f100 := by kernel_rfl
@[simp] theorem func101 : Star.prog.funcs[101]? = some Tryd.f101 := by kernel_rfl
@[simp] theorem func102 : Star.prog.funcs[102]? = some Tryd.f102 := by kernel_rfl
@[simp] theorem func103 : Star.prog.funcs[103]? = some Tryd.f103 := by kernel_rfl
@[simp] theorem func104 : Star.prog.funcs[104]? = some Tryd.f104 := by kernel_rfl
@[simp] theorem func105 : Star.prog.funcs[105]? = some Tryd.f105 := by kernel_rfl
@[simp] theorem func106 : Star.prog.funcs[106]? = some Tryd.f106 := by kernel_rfl
@[simp] theorem func107 : Star.prog.funcs[107]? = some Tryd.f107 := by kernel_rfl
@[simp] theorem func108 : Star.prog.funcs[108]? = some Tryd.f108 := by kernel_rfl
@[simp] theorem func109 : Star.prog.funcs[109]? = some Tryd.f109 := by kernel_rfl
@[simp] theorem func11 : Star.prog.funcs[11]? = some Tryd.f11 := by kernel_rfl
@[simp] theorem func13 : Star.prog.funcs[13]? = some Tryd.f13 := by kernel_rfl
@[simp] theorem func14 : Star.prog.funcs[14]? = some Tryd.f14 := by kernel_rfl
@[simp] theorem func15 : Star.prog.funcs[15]? = some Tryd.f15 := by kernel_rfl
@[simp] theorem func16 : Star.prog.funcs[16]? = some Tryd.f16 := by kernel_rfl
@[simp] theorem func17 : Star.prog.funcs[17]? = some Tryd.f17 := by kernel_rfl
@[simp] theorem func18 : Star.prog.funcs[18]? = some Tryd.f18 := by kernel_rfl
@[simp] theorem func19 : Star.prog.funcs[19]? = some Tryd.f19 := by kernel_rfl
@[simp] theorem func2 : Star.prog.funcs[2]? = some Tryd.f2 := by kernel_rfl
@[simp] theorem func20 : Star.prog.funcs[20]? = some Tryd.f20 := by kernel_rfl
@[simp] theorem func21 : Star.prog.funcs[21]? = some Tryd.f21 := by kernel_rfl
@[simp] theorem func22 : Star.prog.funcs[22]? = some Tryd.f22 := by kernel_rfl
@[simp] theorem func23 : Star.prog.funcs[23]? = some Tryd.f23 := by kernel_rfl
@[simp] theorem func24 : Star.prog.funcs[24]? = some Tryd.f24 := by kernel_rfl
@[simp] theorem func26 : Star.prog.funcs[26]? = some Tryd.f26 := by kernel_rfl
@[simp] theorem func27 : Star.prog.funcs[27]? = some Tryd.f27 := by kernel_rfl
@[simp] theorem func28 : Star.prog.funcs[28]? = some Tryd.f28 := by kernel_rfl
@[simp] theorem func29 : Star.prog.funcs[29]? = some Tryd.f29 := by kernel_rfl
@[simp] theorem func30 : Star.prog.funcs[30]? = some Tryd.f30 := by kernel_rfl
@[simp] theorem func31 : Star.prog.funcs[31]? = some Tryd.f31 := by kernel_rfl
@[simp] theorem func32 : Star.prog.funcs[32]? = some Tryd.f32 := by kernel_rfl
@[simp] theorem func33 : Star.prog.funcs[33]? = some Tryd.f33 := by kernel_rfl
@[simp] theorem func34 : Star.prog.funcs[34]? = some Tryd.f34 := by kernel_rfl
@[simp] theorem func35 : Star.prog.funcs[35]? = some Tryd.f35 := by kernel_rfl
@[simp] theorem func36 : Star.prog.funcs[36]? = some Tryd.f36 := by kernel_rfl
@[simp] theorem func37 : Star.prog.funcs[37]? = some Tryd.f37 := by kernel_rfl
@[simp] theorem func38 : Star.prog.funcs[38]? = some Tryd.f38 := by kernel_rfl
@[simp] theorem func39 : Star.prog.funcs[39]? = some Tryd.f39 := by kernel_rfl
@[simp] theorem func40 : Star.prog.funcs[40]? = some Tryd.f40 := by kernel_rfl
@[simp] theorem func41 : Star.prog.funcs[41]? = some Tryd.f41 := by kernel_rfl
@[simp] theorem func42 : Star.prog.funcs[42]? = some Tryd.f42 := by kernel_rfl
@[simp] theorem func43 : Star.prog.funcs[43]? = some Tryd.f43 := by kernel_rfl
@[simp] theorem func44 : Star.prog.funcs[44]? = some Tryd.f44 := by kernel_rfl
@[simp] theorem func45 : Star.prog.funcs[45]? = some Tryd.f45 := by kernel_rfl
@[simp] theorem func46 : Star.prog.funcs[46]? = some Tryd.f46 := by kernel_rfl
@[simp] theorem func47 : Star.prog.funcs[47]? = some Tryd.f47 := by kernel_rfl
@[simp] theorem func48 : Star.prog.funcs[48]? = some Tryd.f48 := by kernel_rfl
@[simp] theorem func49 : Star.prog.funcs[49]? = some Tryd.f49 := by kernel_rfl
@[simp] theorem func5 : Star.prog.funcs[5]? = some Tryd.f5 := by kernel_rfl
@[simp] theorem func50 : Star.prog.funcs[50]? = some Tryd.f50 := by kernel_rfl
@[simp] theorem func51 : Star.prog.funcs[51]? = some Tryd.f51 := by kernel_rfl
@[simp] theorem func52 : Star.prog.funcs[52]? = some Tryd.f52 := by kernel_rfl
@[simp] theorem func53 : Star.prog.funcs[53]? = some Tryd.f53 := by kernel_rfl
@[simp] theorem func54 : Star.prog.funcs[54]? = some Tryd.f54 := by kernel_rfl
@[simp] theorem func55 : Star.prog.funcs[55]? = some Tryd.f55 := by kernel_rfl
@[simp] theorem func56 : Star.prog.funcs[56]? = some Tryd.f56 := by kernel_rfl
@[simp] theorem func57 : Star.prog.funcs[57]? = some Tryd.f57 := by kernel_rfl
@[simp] theorem func58 : Star.prog.funcs[58]? = some Tryd.f58 := by kernel_rfl
@[simp] theorem func59 : Star.prog.funcs[59]? = some Tryd.f59 := by kernel_rfl
@[simp] theorem func60 : Star.prog.funcs[60]? = some Tryd.f60 := by kernel_rfl
@[simp] theorem func61 : Star.prog.funcs[61]? = some Tryd.f61 := by kernel_rfl
@[simp] theorem func62 : Star.prog.funcs[62]? = some Tryd.f62 := by kernel_rfl
@[simp] theorem func63 : Star.prog.funcs[63]? = some Tryd.f63 := by kernel_rfl
@[simp] theorem func64 : Star.prog.funcs[64]? = some Star.f64 := by kernel_rfl
@[simp] theorem func65 : Star.prog.funcs[65]? = some Tryd.f65 := by kernel_rfl
@[simp] theorem func66 : Star.prog.funcs[66]? = some Tryd.f66 := by kernel_rfl
@[simp] theorem func67 : Star.prog.funcs[67]? = some Tryd.f67 := by kernel_rfl
@[simp] theorem func68 : Star.prog.funcs[68]? = some Tryd.f68 := by kernel_rfl
@[simp] theorem func69 : Star.prog.funcs[69]? = some Tryd.f69 := by kernel_rfl
@[simp] theorem func7 : Star.prog.funcs[7]? = some Tryd.f7 := by kernel_rfl
@[simp] theorem func70 : Star.prog.funcs[70]? = some Tryd.f70 := by kernel_rfl
@[simp] theorem func71 : Star.prog.funcs[71]? = some Tryd.f71 := by kernel_rfl
@[simp] theorem func72 : Star.prog.funcs[72]? = some Tryd.f72 := by kernel_rfl
@[simp] theorem func73 : Star.prog.funcs[73]? = some Tryd.f73 := by kernel_rfl
@[simp] theorem func74 : Star.prog.funcs[74]? = some Tryd.f74 := by kernel_rfl
@[simp] theorem func75 : Star.prog.funcs[75]? = some Tryd.f75 := by kernel_rfl
@[simp] theorem func76 : Star.prog.funcs[76]? = some Tryd.f76 := by kernel_rfl
@[simp] theorem func77 : Star.prog.funcs[77]? = some Tryd.f77 := by kernel_rfl
@[simp] theorem func78 : Star.prog.funcs[78]? = some Tryd.f78 := by kernel_rfl
@[simp] theorem func79 : Star.prog.funcs[79]? = some Tryd.f79 := by kernel_rfl
@[simp] theorem func8 : Star.prog.funcs[8]? = some Tryd.f8 := by kernel_rfl
@[simp] theorem func80 : Star.prog.funcs[80]? = some Tryd.f80 := by kernel_rfl
@[simp] theorem func81 : Star.prog.funcs[81]? = some Tryd.f81 := by kernel_rfl
@[simp] theorem func82 : Star.prog.funcs[82]? = some Tryd.f82 := by kernel_rfl
@[simp] theorem func83 : Star.prog.funcs[83]? = some Tryd.f83 := by kernel_rfl
@[simp] theorem func84 : Star.prog.funcs[84]? = some Tryd.f84 := by kernel_rfl
@[simp] theorem func85 : Star.prog.funcs[85]? = some Tryd.f85 := by kernel_rfl
@[simp] theorem func86 : Star.prog.funcs[86]? = some Tryd.f86 := by kernel_rfl
@[simp] theorem func87 : Star.prog.funcs[87]? = some Tryd.f87 := by kernel_rfl
@[simp] theorem func88 : Star.prog.funcs[88]? = some Tryd.f88 := by kernel_rfl
@[simp] theorem func89 : Star.prog.funcs[89]? = some Tryd.f89 := by kernel_rfl
@[simp] theorem func9 : Star.prog.funcs[9]? = some Tryd.f9 := by kernel_rfl
@[simp] theorem func90 : Star.prog.funcs[90]? = some Tryd.f90 := by kernel_rfl
@[simp] theorem func91 : Star.prog.funcs[91]? = some Tryd.f91 := by kernel_rfl
@[simp] theorem func92 : Star.prog.funcs[92]? = some Tryd.f92 := by kernel_rfl
@[simp] theorem func93 : Star.prog.funcs[93]? = some Tryd.f93 := by kernel_rfl
@[simp] theorem func94 : Star.prog.funcs[94]? = some Tryd.f94 := by kernel_rfl
@[simp] theorem func95 : Star.prog.funcs[95]? = some Tryd.f95 := by kernel_rfl
@[simp] theorem func96 : Star.prog.funcs[96]? = some Tryd.f96 := by kernel_rfl
@[simp] theorem func97 : Star.prog.funcs[97]? = some Tryd.f97 := by kernel_rfl
@[simp] theorem func98 : Star.prog.funcs[98]? = some Tryd.f98 := by kernel_rfl
@[simp] theorem func99 : Star.prog.funcs[99]? = some Tryd.f99 := by kernel_rfl
@[simp] theorem globals_size : Star.prog.globals.size = 1 := by kernel_rfl
@[simp] theorem inits_eq : Star.prog.inits = #[2] := by kernel_rfl
@[simp] theorem isAgg105 : ∀ (w : World), Sem.run Star.prog (isAgg 105) w = Result.ok false w := by intro w; kernel_rfl
@[simp] theorem isAgg108 : ∀ (w : World), Sem.run Star.prog (isAgg 108) w = Result.ok false w := by intro w; kernel_rfl
@[simp] theorem isAgg115 : ∀ (w : World), Sem.run Star.prog (isAgg 115) w = Result.ok true w := by intro w; kernel_rfl
@[simp] theorem isAgg116 : ∀ (w : World), Sem.run Star.prog (isAgg 116) w = Result.ok true w := by intro w; kernel_rfl
@[simp] theorem isAgg22 : ∀ (w : World), Sem.run Star.prog (isAgg 22) w = Result.ok false w := by intro w; kernel_rfl
@[simp] theorem isAgg24 : ∀ (w : World), Sem.run Star.prog (isAgg 24) w = Result.ok true w := by intro w; kernel_rfl
@[simp] theorem isAgg26 : ∀ (w : World), Sem.run Star.prog (isAgg 26) w = Result.ok true w := by intro w; kernel_rfl
@[simp] theorem isAgg3 : ∀ (w : World), Sem.run Star.prog (isAgg 3) w = Result.ok false w := by intro w; kernel_rfl
@[simp] theorem isAgg30 : ∀ (w : World), Sem.run Star.prog (isAgg 30) w = Result.ok false w := by intro w; kernel_rfl
@[simp] theorem isAgg36 : ∀ (w : World), Sem.run Star.prog (isAgg 36) w = Result.ok false w := by intro w; kernel_rfl
@[simp] theorem isAgg4 : ∀ (w : World), Sem.run Star.prog (isAgg 4) w = Result.ok false w := by intro w; kernel_rfl
@[simp] theorem isAgg5 : ∀ (w : World), Sem.run Star.prog (isAgg 5) w = Result.ok false w := by intro w; kernel_rfl
@[simp] theorem isAgg50 : ∀ (w : World), Sem.run Star.prog (isAgg 50) w = Result.ok false w := by intro w; kernel_rfl
@[simp] theorem isAgg55 : ∀ (w : World), Sem.run Star.prog (isAgg 55) w = Result.ok true w := by intro w; kernel_rfl
@[simp] theorem isAgg62 : ∀ (w : World), Sem.run Star.prog (isAgg 62) w = Result.ok true w := by intro w; kernel_rfl
@[simp] theorem isAgg84 : ∀ (w : World), Sem.run Star.prog (isAgg 84) w = Result.ok false w := by intro w; kernel_rfl
@[simp] theorem isAgg89 : ∀ (w : World), Sem.run Star.prog (isAgg 89) w = Result.ok true w := by intro w; kernel_rfl
@[simp] theorem isAgg9 : ∀ (w : World), Sem.run Star.prog (isAgg 9) w = Result.ok false w := by intro w; kernel_rfl
@[simp] theorem isAgg95 : ∀ (w : World), Sem.run Star.prog (isAgg 95) w = Result.ok true w := by intro w; kernel_rfl
@[simp] theorem isAgg98 : ∀ (w : World), Sem.run Star.prog (isAgg 98) w = Result.ok true w := by intro w; kernel_rfl
@[simp] theorem main_eq : Star.prog.main = 0 := by kernel_rfl
@[simp] theorem rt_eq : Star.prog.rt = { boundsError := 8, errorString := 10, plainError := 11, errorAddressString := 14, typeAssertionError := 15, panicNilError := 16, unhashableTypeError := 19, string := 9, any := 20, int := 3, bool := 4, rune := 21, byte := 5 } := by kernel_rfl
@[simp] theorem runUnderlying105 : ∀ (w : World), Sem.run Star.prog (underlying 105) w = Result.ok (TypeDesc.func #[36] #[22] false) w := by intro w; kernel_rfl
@[simp] theorem runUnderlying108 : ∀ (w : World), Sem.run Star.prog (underlying 108) w = Result.ok (TypeDesc.int IntKind.u64) w := by intro w; kernel_rfl
@[simp] theorem runUnderlying115 : ∀ (w : World), Sem.run Star.prog (underlying 115) w = Result.ok (TypeDesc.array 5 3) w := by intro w; kernel_rfl
@[simp] theorem runUnderlying116 : ∀ (w : World), Sem.run Star.prog (underlying 116) w = Result.ok (TypeDesc.array 5 115) w := by intro w; kernel_rfl
@[simp] theorem runUnderlying22 : ∀ (w : World), Sem.run Star.prog (underlying 22) w = Result.ok (TypeDesc.int IntKind.u64) w := by intro w; kernel_rfl
@[simp] theorem runUnderlying24 : ∀ (w : World), Sem.run Star.prog (underlying 24) w = Result.ok (TypeDesc.array 25 22) w := by intro w; kernel_rfl
@[simp] theorem runUnderlying26 : ∀ (w : World), Sem.run Star.prog (underlying 26) w = Result.ok (TypeDesc.struct #[{ name := "Rate", type := 3, offset := 0, embedded := false, tag := "", pkgPath := "", byteOffset := 0 }, { name := "Suffix", type := 3, offset := 1, embedded := false, tag := "", pkgPath := "", byteOffset := 8 }, { name := "A", type := 24, offset := 2, embedded := false, tag := "", pkgPath := "", byteOffset := 16 }, { name := "At", type := 3, offset := 27, embedded := false, tag := "", pkgPath := "", byteOffset := 216 }, { name := "Reading", type := 4, offset := 28, embedded := false, tag := "", pkgPath := "", byteOffset := 224 }]) w := by intro w; kernel_rfl
@[simp] theorem runUnderlying3 : ∀ (w : World), Sem.run Star.prog (underlying 3) w = Result.ok (TypeDesc.int IntKind.i64) w := by intro w; kernel_rfl
@[simp] theorem runUnderlying30 : ∀ (w : World), Sem.run Star.prog (underlying 30) w = Result.ok (TypeDesc.pointer 62) w := by intro w; kernel_rfl
@[simp] theorem runUnderlying36 : ∀ (w : World), Sem.run Star.prog (underlying 36) w = Result.ok (TypeDesc.slice 5) w := by intro w; kernel_rfl
@[simp] theorem runUnderlying4 : ∀ (w : World), Sem.run Star.prog (underlying 4) w = Result.ok TypeDesc.bool w := by intro w; kernel_rfl
@[simp] theorem runUnderlying5 : ∀ (w : World), Sem.run Star.prog (underlying 5) w = Result.ok (TypeDesc.int IntKind.u8) w := by intro w; kernel_rfl
@[simp] theorem runUnderlying50 : ∀ (w : World), Sem.run Star.prog (underlying 50) w = Result.ok (TypeDesc.slice 3) w := by intro w; kernel_rfl
@[simp] theorem runUnderlying55 : ∀ (w : World), Sem.run Star.prog (underlying 55) w = Result.ok (TypeDesc.array 2 5) w := by intro w; kernel_rfl
@[simp] theorem runUnderlying62 : ∀ (w : World), Sem.run Star.prog (underlying 62) w = Result.ok (TypeDesc.struct #[{ name := "rate", type := 3, offset := 0, embedded := false, tag := "", pkgPath := "cribble/sponge", byteOffset := 0 }, { name := "suffix", type := 5, offset := 1, embedded := false, tag := "", pkgPath := "cribble/sponge", byteOffset := 8 }, { name := "a", type := 24, offset := 2, embedded := false, tag := "", pkgPath := "cribble/sponge", byteOffset := 16 }, { name := "at", type := 3, offset := 27, embedded := false, tag := "", pkgPath := "cribble/sponge", byteOffset := 216 }, { name := "reading", type := 4, offset := 28, embedded := false, tag := "", pkgPath := "cribble/sponge", byteOffset := 224 }]) w := by intro w; kernel_rfl
@[simp] theorem runUnderlying84 : ∀ (w : World), Sem.run Star.prog (underlying 84) w = Result.ok (TypeDesc.slice 22) w := by intro w; kernel_rfl
@[simp] theorem runUnderlying89 : ∀ (w : World), Sem.run Star.prog (underlying 89) w = Result.ok (TypeDesc.array 200 5) w := by intro w; kernel_rfl
@[simp] theorem runUnderlying9 : ∀ (w : World), Sem.run Star.prog (underlying 9) w = Result.ok TypeDesc.string w := by intro w; kernel_rfl
@[simp] theorem runUnderlying95 : ∀ (w : World), Sem.run Star.prog (underlying 95) w = Result.ok (TypeDesc.array 25 3) w := by intro w; kernel_rfl
@[simp] theorem runUnderlying98 : ∀ (w : World), Sem.run Star.prog (underlying 98) w = Result.ok (TypeDesc.array 5 22) w := by intro w; kernel_rfl
@[simp] theorem sizeOf105 : ∀ (w : World), Sem.run Star.prog (sizeOf 105) w = Result.ok 1 w := by intro w; kernel_rfl
@[simp] theorem sizeOf108 : ∀ (w : World), Sem.run Star.prog (sizeOf 108) w = Result.ok 1 w := by intro w; kernel_rfl
@[simp] theorem sizeOf115 : ∀ (w : World), Sem.run Star.prog (sizeOf 115) w = Result.ok 5 w := by intro w; kernel_rfl
@[simp] theorem sizeOf116 : ∀ (w : World), Sem.run Star.prog (sizeOf 116) w = Result.ok 25 w := by intro w; kernel_rfl
@[simp] theorem sizeOf22 : ∀ (w : World), Sem.run Star.prog (sizeOf 22) w = Result.ok 1 w := by intro w; kernel_rfl
@[simp] theorem sizeOf24 : ∀ (w : World), Sem.run Star.prog (sizeOf 24) w = Result.ok 25 w := by intro w; kernel_rfl
@[simp] theorem sizeOf26 : ∀ (w : World), Sem.run Star.prog (sizeOf 26) w = Result.ok 29 w := by intro w; kernel_rfl
@[simp] theorem sizeOf3 : ∀ (w : World), Sem.run Star.prog (sizeOf 3) w = Result.ok 1 w := by intro w; kernel_rfl
@[simp] theorem sizeOf30 : ∀ (w : World), Sem.run Star.prog (sizeOf 30) w = Result.ok 1 w := by intro w; kernel_rfl
@[simp] theorem sizeOf36 : ∀ (w : World), Sem.run Star.prog (sizeOf 36) w = Result.ok 1 w := by intro w; kernel_rfl
@[simp] theorem sizeOf4 : ∀ (w : World), Sem.run Star.prog (sizeOf 4) w = Result.ok 1 w := by intro w; kernel_rfl
@[simp] theorem sizeOf5 : ∀ (w : World), Sem.run Star.prog (sizeOf 5) w = Result.ok 1 w := by intro w; kernel_rfl
@[simp] theorem sizeOf50 : ∀ (w : World), Sem.run Star.prog (sizeOf 50) w = Result.ok 1 w := by intro w; kernel_rfl
@[simp] theorem sizeOf55 : ∀ (w : World), Sem.run Star.prog (sizeOf 55) w = Result.ok 2 w := by intro w; kernel_rfl
@[simp] theorem sizeOf62 : ∀ (w : World), Sem.run Star.prog (sizeOf 62) w = Result.ok 29 w := by intro w; kernel_rfl
@[simp] theorem sizeOf84 : ∀ (w : World), Sem.run Star.prog (sizeOf 84) w = Result.ok 1 w := by intro w; kernel_rfl
@[simp] theorem sizeOf89 : ∀ (w : World), Sem.run Star.prog (sizeOf 89) w = Result.ok 200 w := by intro w; kernel_rfl
@[simp] theorem sizeOf9 : ∀ (w : World), Sem.run Star.prog (sizeOf 9) w = Result.ok 1 w := by intro w; kernel_rfl
@[simp] theorem sizeOf95 : ∀ (w : World), Sem.run Star.prog (sizeOf 95) w = Result.ok 25 w := by intro w; kernel_rfl
@[simp] theorem sizeOf98 : ∀ (w : World), Sem.run Star.prog (sizeOf 98) w = Result.ok 5 w := by intro w; kernel_rfl
@[simp] theorem stoodInHeld121 : Star.prog.stoodInHeld 121 = true := by kernel_rfl
@[simp] theorem stoodInHeld122 : Star.prog.stoodInHeld 122 = true := by kernel_rfl
@[simp] theorem stoodInHeld124 : Star.prog.stoodInHeld 124 = true := by kernel_rfl
@[simp] theorem stoodInHeld125 : Star.prog.stoodInHeld 125 = true := by kernel_rfl
@[simp] theorem stoodInHeld13 : Star.prog.stoodInHeld 13 = true := by kernel_rfl
@[simp] theorem stoodInHeld133 : Star.prog.stoodInHeld 133 = true := by kernel_rfl
@[simp] theorem stoodInHeld134 : Star.prog.stoodInHeld 134 = true := by kernel_rfl
@[simp] theorem stoodInHeld14 : Star.prog.stoodInHeld 14 = true := by kernel_rfl
@[simp] theorem stoodInHeld18 : Star.prog.stoodInHeld 18 = true := by kernel_rfl
@[simp] theorem stoodInHeld19 : Star.prog.stoodInHeld 19 = true := by kernel_rfl
@[simp] theorem stoodInHeld25 : Star.prog.stoodInHeld 25 = false := by kernel_rfl
@[simp] theorem stoodInHeld26 : Star.prog.stoodInHeld 26 = false := by kernel_rfl
@[simp] theorem stoodInHeld37 : Star.prog.stoodInHeld 37 = false := by kernel_rfl
@[simp] theorem stoodInHeld38 : Star.prog.stoodInHeld 38 = false := by kernel_rfl
@[simp] theorem stoodInHeld44 : Star.prog.stoodInHeld 44 = false := by kernel_rfl
@[simp] theorem stoodInHeld45 : Star.prog.stoodInHeld 45 = false := by kernel_rfl
@[simp] theorem stoodInHeld61 : Star.prog.stoodInHeld 61 = false := by kernel_rfl
@[simp] theorem stoodInHeld62 : Star.prog.stoodInHeld 62 = false := by kernel_rfl
@[simp] theorem stoodInHeld7 : Star.prog.stoodInHeld 7 = false := by kernel_rfl
@[simp] theorem stoodInHeld77 : Star.prog.stoodInHeld 77 = false := by kernel_rfl
@[simp] theorem stoodInHeld8 : Star.prog.stoodInHeld 8 = false := by kernel_rfl
@[simp] theorem type105 : Star.prog.types[105]? = some Tryd.t105 := by kernel_rfl
@[simp] theorem type108 : Star.prog.types[108]? = some Tryd.t108 := by kernel_rfl
@[simp] theorem type115 : Star.prog.types[115]? = some Tryd.t115 := by kernel_rfl
@[simp] theorem type116 : Star.prog.types[116]? = some Tryd.t116 := by kernel_rfl
@[simp] theorem type22 : Star.prog.types[22]? = some Tryd.t22 := by kernel_rfl
@[simp] theorem type24 : Star.prog.types[24]? = some Tryd.t24 := by kernel_rfl
@[simp] theorem type26 : Star.prog.types[26]? = some Tryd.t26 := by kernel_rfl
@[simp] theorem type3 : Star.prog.types[3]? = some Tryd.t3 := by kernel_rfl
@[simp] theorem type30 : Star.prog.types[30]? = some Tryd.t30 := by kernel_rfl
@[simp] theorem type36 : Star.prog.types[36]? = some Tryd.t36 := by kernel_rfl
@[simp] theorem type4 : Star.prog.types[4]? = some Tryd.t4 := by kernel_rfl
@[simp] theorem type5 : Star.prog.types[5]? = some Tryd.t5 := by kernel_rfl
@[simp] theorem type50 : Star.prog.types[50]? = some Tryd.t50 := by kernel_rfl
@[simp] theorem type55 : Star.prog.types[55]? = some Tryd.t55 := by kernel_rfl
@[simp] theorem type62 : Star.prog.types[62]? = some Tryd.t62 := by kernel_rfl
@[simp] theorem type84 : Star.prog.types[84]? = some Tryd.t84 := by kernel_rfl
@[simp] theorem type89 : Star.prog.types[89]? = some Tryd.t89 := by kernel_rfl
@[simp] theorem type9 : Star.prog.types[9]? = some Tryd.t9 := by kernel_rfl
@[simp] theorem type95 : Star.prog.types[95]? = some Tryd.t95 := by kernel_rfl
@[simp] theorem type98 : Star.prog.types[98]? = some Tryd.t98 := by kernel_rfl
@[simp] theorem typeInfo105 : ∀ (w : World), Sem.run Star.prog (typeInfo 105) w = Result.ok Tryd.t105 w := by intro w; kernel_rfl
@[simp] theorem typeInfo108 : ∀ (w : World), Sem.run Star.prog (typeInfo 108) w = Result.ok Tryd.t108 w := by intro w; kernel_rfl
@[simp] theorem typeInfo115 : ∀ (w : World), Sem.run Star.prog (typeInfo 115) w = Result.ok Tryd.t115 w := by intro w; kernel_rfl
@[simp] theorem typeInfo116 : ∀ (w : World), Sem.run Star.prog (typeInfo 116) w = Result.ok Tryd.t116 w := by intro w; kernel_rfl
@[simp] theorem typeInfo22 : ∀ (w : World), Sem.run Star.prog (typeInfo 22) w = Result.ok Tryd.t22 w := by intro w; kernel_rfl
@[simp] theorem typeInfo24 : ∀ (w : World), Sem.run Star.prog (typeInfo 24) w = Result.ok Tryd.t24 w := by intro w; kernel_rfl
@[simp] theorem typeInfo26 : ∀ (w : World), Sem.run Star.prog (typeInfo 26) w = Result.ok Tryd.t26 w := by intro w; kernel_rfl
@[simp] theorem typeInfo3 : ∀ (w : World), Sem.run Star.prog (typeInfo 3) w = Result.ok Tryd.t3 w := by intro w; kernel_rfl
@[simp] theorem typeInfo30 : ∀ (w : World), Sem.run Star.prog (typeInfo 30) w = Result.ok Tryd.t30 w := by intro w; kernel_rfl
@[simp] theorem typeInfo36 : ∀ (w : World), Sem.run Star.prog (typeInfo 36) w = Result.ok Tryd.t36 w := by intro w; kernel_rfl
@[simp] theorem typeInfo4 : ∀ (w : World), Sem.run Star.prog (typeInfo 4) w = Result.ok Tryd.t4 w := by intro w; kernel_rfl
@[simp] theorem typeInfo5 : ∀ (w : World), Sem.run Star.prog (typeInfo 5) w = Result.ok Tryd.t5 w := by intro w; kernel_rfl
@[simp] theorem typeInfo50 : ∀ (w : World), Sem.run Star.prog (typeInfo 50) w = Result.ok Tryd.t50 w := by intro w; kernel_rfl
@[simp] theorem typeInfo55 : ∀ (w : World), Sem.run Star.prog (typeInfo 55) w = Result.ok Tryd.t55 w := by intro w; kernel_rfl
@[simp] theorem typeInfo62 : ∀ (w : World), Sem.run Star.prog (typeInfo 62) w = Result.ok Tryd.t62 w := by intro w; kernel_rfl
@[simp] theorem typeInfo84 : ∀ (w : World), Sem.run Star.prog (typeInfo 84) w = Result.ok Tryd.t84 w := by intro w; kernel_rfl
@[simp] theorem typeInfo89 : ∀ (w : World), Sem.run Star.prog (typeInfo 89) w = Result.ok Tryd.t89 w := by intro w; kernel_rfl
@[simp] theorem typeInfo9 : ∀ (w : World), Sem.run Star.prog (typeInfo 9) w = Result.ok Tryd.t9 w := by intro w; kernel_rfl
@[simp] theorem typeInfo95 : ∀ (w : World), Sem.run Star.prog (typeInfo 95) w = Result.ok Tryd.t95 w := by intro w; kernel_rfl
@[simp] theorem typeInfo98 : ∀ (w : World), Sem.run Star.prog (typeInfo 98) w = Result.ok Tryd.t98 w := by intro w; kernel_rfl
@[simp] theorem types_size : Star.prog.types.size = 136 := by kernel_rfl
@[simp] theorem underlying105 : Star.prog.underlying 105 = some (TypeDesc.func #[36] #[22] false) := by kernel_rfl
@[simp] theorem underlying108 : Star.prog.underlying 108 = some (TypeDesc.int IntKind.u64) := by kernel_rfl
@[simp] theorem underlying115 : Star.prog.underlying 115 = some (TypeDesc.array 5 3) := by kernel_rfl
@[simp] theorem underlying116 : Star.prog.underlying 116 = some (TypeDesc.array 5 115) := by kernel_rfl
@[simp] theorem underlying22 : Star.prog.underlying 22 = some (TypeDesc.int IntKind.u64) := by kernel_rfl
@[simp] theorem underlying24 : Star.prog.underlying 24 = some (TypeDesc.array 25 22) := by kernel_rfl
@[simp] theorem underlying26 : Star.prog.underlying 26 = some (TypeDesc.struct #[{ name := "Rate", type := 3, offset := 0, embedded := false, tag := "", pkgPath := "", byteOffset := 0 }, { name := "Suffix", type := 3, offset := 1, embedded := false, tag := "", pkgPath := "", byteOffset := 8 }, { name := "A", type := 24, offset := 2, embedded := false, tag := "", pkgPath := "", byteOffset := 16 }, { name := "At", type := 3, offset := 27, embedded := false, tag := "", pkgPath := "", byteOffset := 216 }, { name := "Reading", type := 4, offset := 28, embedded := false, tag := "", pkgPath := "", byteOffset := 224 }]) := by kernel_rfl
@[simp] theorem underlying3 : Star.prog.underlying 3 = some (TypeDesc.int IntKind.i64) := by kernel_rfl
@[simp] theorem underlying30 : Star.prog.underlying 30 = some (TypeDesc.pointer 62) := by kernel_rfl
@[simp] theorem underlying36 : Star.prog.underlying 36 = some (TypeDesc.slice 5) := by kernel_rfl
@[simp] theorem underlying4 : Star.prog.underlying 4 = some TypeDesc.bool := by kernel_rfl
@[simp] theorem underlying5 : Star.prog.underlying 5 = some (TypeDesc.int IntKind.u8) := by kernel_rfl
@[simp] theorem underlying50 : Star.prog.underlying 50 = some (TypeDesc.slice 3) := by kernel_rfl
@[simp] theorem underlying55 : Star.prog.underlying 55 = some (TypeDesc.array 2 5) := by kernel_rfl
@[simp] theorem underlying62 : Star.prog.underlying 62 = some (TypeDesc.struct #[{ name := "rate", type := 3, offset := 0, embedded := false, tag := "", pkgPath := "cribble/sponge", byteOffset := 0 }, { name := "suffix", type := 5, offset := 1, embedded := false, tag := "", pkgPath := "cribble/sponge", byteOffset := 8 }, { name := "a", type := 24, offset := 2, embedded := false, tag := "", pkgPath := "cribble/sponge", byteOffset := 16 }, { name := "at", type := 3, offset := 27, embedded := false, tag := "", pkgPath := "cribble/sponge", byteOffset := 216 }, { name := "reading", type := 4, offset := 28, embedded := false, tag := "", pkgPath := "cribble/sponge", byteOffset := 224 }]) := by kernel_rfl
@[simp] theorem underlying84 : Star.prog.underlying 84 = some (TypeDesc.slice 22) := by kernel_rfl
@[simp] theorem underlying89 : Star.prog.underlying 89 = some (TypeDesc.array 200 5) := by kernel_rfl
@[simp] theorem underlying9 : Star.prog.underlying 9 = some TypeDesc.string := by kernel_rfl
@[simp] theorem underlying95 : Star.prog.underlying 95 = some (TypeDesc.array 25 3) := by kernel_rfl
@[simp] theorem underlying98 : Star.prog.underlying 98 = some (TypeDesc.array 5 22) := by kernel_rfl
@[simp] theorem zeroValue105 : ∀ (w : World), Sem.run Star.prog (zeroValue 105) w = Result.ok Value.nilFunc w := by intro w; kernel_rfl
@[simp] theorem zeroValue108 : ∀ (w : World), Sem.run Star.prog (zeroValue 108) w = Result.ok (Value.int IntKind.u64 0) w := by intro w; kernel_rfl
@[simp] theorem zeroValue115 : ∀ (w : World), Sem.run Star.prog (zeroValue 115) w = Result.ok (Value.agg #[Value.int IntKind.i64 0, Value.int IntKind.i64 0, Value.int IntKind.i64 0, Value.int IntKind.i64 0, Value.int IntKind.i64 0]) w := by intro w; kernel_rfl
@[simp] theorem zeroValue116 : ∀ (w : World), Sem.run Star.prog (zeroValue 116) w = Result.ok (Value.agg #[Value.int IntKind.i64 0, Value.int IntKind.i64 0, Value.int IntKind.i64 0, Value.int IntKind.i64 0, Value.int IntKind.i64 0, Value.int IntKind.i64 0, Value.int IntKind.i64 0, Value.int IntKind.i64 0, Value.int IntKind.i64 0, Value.int IntKind.i64 0, Value.int IntKind.i64 0, Value.int IntKind.i64 0, Value.int IntKind.i64 0, Value.int IntKind.i64 0, Value.int IntKind.i64 0, Value.int IntKind.i64 0, Value.int IntKind.i64 0, Value.int IntKind.i64 0, Value.int IntKind.i64 0, Value.int IntKind.i64 0, Value.int IntKind.i64 0, Value.int IntKind.i64 0, Value.int IntKind.i64 0, Value.int IntKind.i64 0, Value.int IntKind.i64 0]) w := by intro w; kernel_rfl
@[simp] theorem zeroValue22 : ∀ (w : World), Sem.run Star.prog (zeroValue 22) w = Result.ok (Value.int IntKind.u64 0) w := by intro w; kernel_rfl
@[simp] theorem zeroValue24 : ∀ (w : World), Sem.run Star.prog (zeroValue 24) w = Result.ok (Value.agg #[Value.int IntKind.u64 0, Value.int IntKind.u64 0, Value.int IntKind.u64 0, Value.int IntKind.u64 0, Value.int IntKind.u64 0, Value.int IntKind.u64 0, Value.int IntKind.u64 0, Value.int IntKind.u64 0, Value.int IntKind.u64 0, Value.int IntKind.u64 0, Value.int IntKind.u64 0, Value.int IntKind.u64 0, Value.int IntKind.u64 0, Value.int IntKind.u64 0, Value.int IntKind.u64 0, Value.int IntKind.u64 0, Value.int IntKind.u64 0, Value.int IntKind.u64 0, Value.int IntKind.u64 0, Value.int IntKind.u64 0, Value.int IntKind.u64 0, Value.int IntKind.u64 0, Value.int IntKind.u64 0, Value.int IntKind.u64 0, Value.int IntKind.u64 0]) w := by intro w; kernel_rfl
@[simp] theorem zeroValue26 : ∀ (w : World), Sem.run Star.prog (zeroValue 26) w = Result.ok (Value.agg #[Value.int IntKind.i64 0, Value.int IntKind.i64 0, Value.int IntKind.u64 0, Value.int IntKind.u64 0, Value.int IntKind.u64 0, Value.int IntKind.u64 0, Value.int IntKind.u64 0, Value.int IntKind.u64 0, Value.int IntKind.u64 0, Value.int IntKind.u64 0, Value.int IntKind.u64 0, Value.int IntKind.u64 0, Value.int IntKind.u64 0, Value.int IntKind.u64 0, Value.int IntKind.u64 0, Value.int IntKind.u64 0, Value.int IntKind.u64 0, Value.int IntKind.u64 0, Value.int IntKind.u64 0, Value.int IntKind.u64 0, Value.int IntKind.u64 0, Value.int IntKind.u64 0, Value.int IntKind.u64 0, Value.int IntKind.u64 0, Value.int IntKind.u64 0, Value.int IntKind.u64 0, Value.int IntKind.u64 0, Value.int IntKind.i64 0, Value.bool false]) w := by intro w; kernel_rfl
@[simp] theorem zeroValue3 : ∀ (w : World), Sem.run Star.prog (zeroValue 3) w = Result.ok (Value.int IntKind.i64 0) w := by intro w; kernel_rfl
@[simp] theorem zeroValue30 : ∀ (w : World), Sem.run Star.prog (zeroValue 30) w = Result.ok (Value.pointer none) w := by intro w; kernel_rfl
@[simp] theorem zeroValue36 : ∀ (w : World), Sem.run Star.prog (zeroValue 36) w = Result.ok (Value.slice none 0 0) w := by intro w; kernel_rfl
@[simp] theorem zeroValue4 : ∀ (w : World), Sem.run Star.prog (zeroValue 4) w = Result.ok (Value.bool false) w := by intro w; kernel_rfl
@[simp] theorem zeroValue5 : ∀ (w : World), Sem.run Star.prog (zeroValue 5) w = Result.ok (Value.int IntKind.u8 0) w := by intro w; kernel_rfl
@[simp] theorem zeroValue50 : ∀ (w : World), Sem.run Star.prog (zeroValue 50) w = Result.ok (Value.slice none 0 0) w := by intro w; kernel_rfl
@[simp] theorem zeroValue55 : ∀ (w : World), Sem.run Star.prog (zeroValue 55) w = Result.ok (Value.agg #[Value.int IntKind.u8 0, Value.int IntKind.u8 0]) w := by intro w; kernel_rfl
@[simp] theorem zeroValue62 : ∀ (w : World), Sem.run Star.prog (zeroValue 62) w = Result.ok (Value.agg #[Value.int IntKind.i64 0, Value.int IntKind.u8 0, Value.int IntKind.u64 0, Value.int IntKind.u64 0, Value.int IntKind.u64 0, Value.int IntKind.u64 0, Value.int IntKind.u64 0, Value.int IntKind.u64 0, Value.int IntKind.u64 0, Value.int IntKind.u64 0, Value.int IntKind.u64 0, Value.int IntKind.u64 0, Value.int IntKind.u64 0, Value.int IntKind.u64 0, Value.int IntKind.u64 0, Value.int IntKind.u64 0, Value.int IntKind.u64 0, Value.int IntKind.u64 0, Value.int IntKind.u64 0, Value.int IntKind.u64 0, Value.int IntKind.u64 0, Value.int IntKind.u64 0, Value.int IntKind.u64 0, Value.int IntKind.u64 0, Value.int IntKind.u64 0, Value.int IntKind.u64 0, Value.int IntKind.u64 0, Value.int IntKind.i64 0, Value.bool false]) w := by intro w; kernel_rfl
@[simp] theorem zeroValue84 : ∀ (w : World), Sem.run Star.prog (zeroValue 84) w = Result.ok (Value.slice none 0 0) w := by intro w; kernel_rfl
@[simp] theorem zeroValue89 : ∀ (w : World), Sem.run Star.prog (zeroValue 89) w = Result.ok (Value.agg Tryd.zeroCells89) w := by intro w; kernel_rfl
@[simp] theorem zeroValue9 : ∀ (w : World), Sem.run Star.prog (zeroValue 9) w = Result.ok (Value.string { data := #[] }) w := by intro w; kernel_rfl
@[simp] theorem zeroValue95 : ∀ (w : World), Sem.run Star.prog (zeroValue 95) w = Result.ok (Value.agg #[Value.int IntKind.i64 0, Value.int IntKind.i64 0, Value.int IntKind.i64 0, Value.int IntKind.i64 0, Value.int IntKind.i64 0, Value.int IntKind.i64 0, Value.int IntKind.i64 0, Value.int IntKind.i64 0, Value.int IntKind.i64 0, Value.int IntKind.i64 0, Value.int IntKind.i64 0, Value.int IntKind.i64 0, Value.int IntKind.i64 0, Value.int IntKind.i64 0, Value.int IntKind.i64 0, Value.int IntKind.i64 0, Value.int IntKind.i64 0, Value.int IntKind.i64 0, Value.int IntKind.i64 0, Value.int IntKind.i64 0, Value.int IntKind.i64 0, Value.int IntKind.i64 0, Value.int IntKind.i64 0, Value.int IntKind.i64 0, Value.int IntKind.i64 0]) w := by intro w; kernel_rfl
@[simp] theorem zeroValue98 : ∀ (w : World), Sem.run Star.prog (zeroValue 98) w = Result.ok (Value.agg #[Value.int IntKind.u64 0, Value.int IntKind.u64 0, Value.int IntKind.u64 0, Value.int IntKind.u64 0, Value.int IntKind.u64 0]) w := by intro w; kernel_rfl
theorem ntmps0 : Tryd.f0.ntmps = 0 := by kernel_rfl
theorem results0 : Tryd.f0.results = #[] := by kernel_rfl
theorem params0 : Tryd.f0.params = #[] := by kernel_rfl
theorem nfree0 : Tryd.f0.nfree = 0 := by kernel_rfl
theorem ntmps1 : Tryd.f1.ntmps = 0 := by kernel_rfl
theorem results1 : Tryd.f1.results = #[] := by kernel_rfl
theorem params1 : Tryd.f1.params = #[] := by kernel_rfl
theorem nfree1 : Tryd.f1.nfree = 0 := by kernel_rfl
theorem ntmps2 : Tryd.f2.ntmps = 1 := by kernel_rfl
theorem results2 : Tryd.f2.results = #[] := by kernel_rfl
theorem params2 : Tryd.f2.params = #[] := by kernel_rfl
theorem nfree2 : Tryd.f2.nfree = 0 := by kernel_rfl
theorem ntmps5 : Tryd.f5.ntmps = 39 := by kernel_rfl
theorem results5 : Tryd.f5.results = #[ResultVar.tmp 4] := by kernel_rfl
theorem params5 : Tryd.f5.params = #[3, 3] := by kernel_rfl
theorem nfree5 : Tryd.f5.nfree = 0 := by kernel_rfl
theorem ntmps7 : Tryd.f7.ntmps = 39 := by kernel_rfl
theorem results7 : Tryd.f7.results = #[ResultVar.tmp 0] := by kernel_rfl
theorem params7 : Tryd.f7.params = #[] := by kernel_rfl
theorem nfree7 : Tryd.f7.nfree = 0 := by kernel_rfl
theorem ntmps8 : Tryd.f8.ntmps = 33 := by kernel_rfl
theorem results8 : Tryd.f8.results = #[ResultVar.tmp 2] := by kernel_rfl
theorem params8 : Tryd.f8.params = #[27] := by kernel_rfl
theorem nfree8 : Tryd.f8.nfree = 0 := by kernel_rfl
theorem ntmps9 : Tryd.f9.ntmps = 35 := by kernel_rfl
theorem results9 : Tryd.f9.results = #[ResultVar.tmp 10, ResultVar.tmp 11] := by kernel_rfl
theorem params9 : Tryd.f9.params = #[3, 3, 24, 3, 4] := by kernel_rfl
theorem nfree9 : Tryd.f9.nfree = 0 := by kernel_rfl
theorem ntmps10 : Tryd.f10.ntmps = 62 := by kernel_rfl
theorem results10 : Tryd.f10.results = #[ResultVar.tmp 2] := by kernel_rfl
theorem params10 : Tryd.f10.params = #[26] := by kernel_rfl
theorem nfree10 : Tryd.f10.nfree = 0 := by kernel_rfl
theorem ntmps11 : Tryd.f11.ntmps = 30 := by kernel_rfl
theorem results11 : Tryd.f11.results = #[ResultVar.tmp 4] := by kernel_rfl
theorem params11 : Tryd.f11.params = #[30, 26] := by kernel_rfl
theorem nfree11 : Tryd.f11.nfree = 0 := by kernel_rfl
theorem ntmps13 : Tryd.f13.ntmps = 38 := by kernel_rfl
theorem results13 : Tryd.f13.results = #[ResultVar.cell 4 26] := by kernel_rfl
theorem params13 : Tryd.f13.params = #[26, 36] := by kernel_rfl
theorem nfree13 : Tryd.f13.nfree = 0 := by kernel_rfl
theorem ntmps14 : Tryd.f14.ntmps = 23 := by kernel_rfl
theorem results14 : Tryd.f14.results = #[ResultVar.tmp 4, ResultVar.tmp 5] := by kernel_rfl
theorem params14 : Tryd.f14.params = #[30, 3] := by kernel_rfl
theorem nfree14 : Tryd.f14.nfree = 0 := by kernel_rfl
theorem ntmps15 : Tryd.f15.ntmps = 61 := by kernel_rfl
theorem results15 : Tryd.f15.results = #[ResultVar.cell 4 45] := by kernel_rfl
theorem params15 : Tryd.f15.params = #[26, 3] := by kernel_rfl
theorem nfree15 : Tryd.f15.nfree = 0 := by kernel_rfl
theorem ntmps16 : Tryd.f16.ntmps = 26 := by kernel_rfl
theorem results16 : Tryd.f16.results = #[ResultVar.tmp 4] := by kernel_rfl
theorem params16 : Tryd.f16.params = #[36, 36] := by kernel_rfl
theorem nfree16 : Tryd.f16.nfree = 0 := by kernel_rfl
theorem ntmps17 : Tryd.f17.ntmps = 19 := by kernel_rfl
theorem results17 : Tryd.f17.results = #[ResultVar.tmp 4, ResultVar.tmp 5] := by kernel_rfl
theorem params17 : Tryd.f17.params = #[30, 3] := by kernel_rfl
theorem nfree17 : Tryd.f17.nfree = 0 := by kernel_rfl
theorem ntmps18 : Tryd.f18.ntmps = 7 := by kernel_rfl
theorem results18 : Tryd.f18.results = #[ResultVar.tmp 2] := by kernel_rfl
theorem params18 : Tryd.f18.params = #[30] := by kernel_rfl
theorem nfree18 : Tryd.f18.nfree = 0 := by kernel_rfl
theorem ntmps19 : Tryd.f19.ntmps = 12 := by kernel_rfl
theorem results19 : Tryd.f19.results = #[ResultVar.tmp 4, ResultVar.tmp 5] := by kernel_rfl
theorem params19 : Tryd.f19.params = #[3, 3] := by kernel_rfl
theorem nfree19 : Tryd.f19.nfree = 0 := by kernel_rfl
theorem ntmps20 : Tryd.f20.ntmps = 71 := by kernel_rfl
theorem results20 : Tryd.f20.results = #[ResultVar.tmp 8] := by kernel_rfl
theorem params20 : Tryd.f20.params = #[3, 3, 36, 3] := by kernel_rfl
theorem nfree20 : Tryd.f20.nfree = 0 := by kernel_rfl
theorem ntmps21 : Tryd.f21.ntmps = 17 := by kernel_rfl
theorem results21 : Tryd.f21.results = #[ResultVar.cell 2 24, ResultVar.tmp 3, ResultVar.tmp 4] := by kernel_rfl
theorem params21 : Tryd.f21.params = #[30] := by kernel_rfl
theorem nfree21 : Tryd.f21.nfree = 0 := by kernel_rfl
theorem ntmps22 : Tryd.f22.ntmps = 6 := by kernel_rfl
theorem results22 : Tryd.f22.results = #[ResultVar.tmp 2] := by kernel_rfl
theorem params22 : Tryd.f22.params = #[3] := by kernel_rfl
theorem nfree22 : Tryd.f22.nfree = 0 := by kernel_rfl
theorem ntmps23 : Tryd.f23.ntmps = 6 := by kernel_rfl
theorem results23 : Tryd.f23.results = #[ResultVar.tmp 2] := by kernel_rfl
theorem params23 : Tryd.f23.params = #[3] := by kernel_rfl
theorem nfree23 : Tryd.f23.nfree = 0 := by kernel_rfl
theorem ntmps24 : Tryd.f24.ntmps = 22 := by kernel_rfl
theorem results24 : Tryd.f24.results = #[ResultVar.tmp 6] := by kernel_rfl
theorem params24 : Tryd.f24.params = #[3, 3, 4] := by kernel_rfl
theorem nfree24 : Tryd.f24.nfree = 0 := by kernel_rfl
theorem ntmps26 : Tryd.f26.ntmps = 17 := by kernel_rfl
theorem results26 : Tryd.f26.results = #[] := by kernel_rfl
theorem params26 : Tryd.f26.params = #[30, 74, 75] := by kernel_rfl
theorem nfree26 : Tryd.f26.nfree = 0 := by kernel_rfl
theorem ntmps27 : Tryd.f27.ntmps = 48 := by kernel_rfl
theorem results27 : Tryd.f27.results = #[ResultVar.cell 6 24] := by kernel_rfl
theorem params27 : Tryd.f27.params = #[24, 3, 36] := by kernel_rfl
theorem nfree27 : Tryd.f27.nfree = 0 := by kernel_rfl
theorem ntmps28 : Tryd.f28.ntmps = 5 := by kernel_rfl
theorem results28 : Tryd.f28.results = #[ResultVar.cell 2 24] := by kernel_rfl
theorem params28 : Tryd.f28.params = #[24] := by kernel_rfl
theorem nfree28 : Tryd.f28.nfree = 0 := by kernel_rfl
theorem ntmps29 : Tryd.f29.ntmps = 9 := by kernel_rfl
theorem results29 : Tryd.f29.results = #[ResultVar.tmp 2] := by kernel_rfl
theorem params29 : Tryd.f29.params = #[3] := by kernel_rfl
theorem nfree29 : Tryd.f29.nfree = 0 := by kernel_rfl
theorem ntmps30 : Tryd.f30.ntmps = 38 := by kernel_rfl
theorem results30 : Tryd.f30.results = #[] := by kernel_rfl
theorem params30 : Tryd.f30.params = #[30] := by kernel_rfl
theorem nfree30 : Tryd.f30.nfree = 0 := by kernel_rfl
theorem ntmps31 : Tryd.f31.ntmps = 60 := by kernel_rfl
theorem results31 : Tryd.f31.results = #[ResultVar.tmp 4] := by kernel_rfl
theorem params31 : Tryd.f31.params = #[30, 3] := by kernel_rfl
theorem nfree31 : Tryd.f31.nfree = 0 := by kernel_rfl
theorem ntmps32 : Tryd.f32.ntmps = 40 := by kernel_rfl
theorem results32 : Tryd.f32.results = #[ResultVar.tmp 6] := by kernel_rfl
theorem params32 : Tryd.f32.params = #[24, 3, 3] := by kernel_rfl
theorem nfree32 : Tryd.f32.nfree = 0 := by kernel_rfl
theorem ntmps33 : Tryd.f33.ntmps = 9 := by kernel_rfl
theorem results33 : Tryd.f33.results = #[ResultVar.tmp 4] := by kernel_rfl
theorem params33 : Tryd.f33.params = #[50, 3] := by kernel_rfl
theorem nfree33 : Tryd.f33.nfree = 0 := by kernel_rfl
theorem ntmps34 : Tryd.f34.ntmps = 37 := by kernel_rfl
theorem results34 : Tryd.f34.results = #[] := by kernel_rfl
theorem params34 : Tryd.f34.params = #[30, 36] := by kernel_rfl
theorem nfree34 : Tryd.f34.nfree = 0 := by kernel_rfl
theorem ntmps35 : Tryd.f35.ntmps = 16 := by kernel_rfl
theorem results35 : Tryd.f35.results = #[ResultVar.tmp 2] := by kernel_rfl
theorem params35 : Tryd.f35.params = #[24] := by kernel_rfl
theorem nfree35 : Tryd.f35.nfree = 0 := by kernel_rfl
theorem ntmps36 : Tryd.f36.ntmps = 27 := by kernel_rfl
theorem results36 : Tryd.f36.results = #[ResultVar.tmp 4] := by kernel_rfl
theorem params36 : Tryd.f36.params = #[5, 5] := by kernel_rfl
theorem nfree36 : Tryd.f36.nfree = 0 := by kernel_rfl
theorem ntmps37 : Tryd.f37.ntmps = 19 := by kernel_rfl
theorem results37 : Tryd.f37.results = #[ResultVar.cell 2 24] := by kernel_rfl
theorem params37 : Tryd.f37.params = #[36] := by kernel_rfl
theorem nfree37 : Tryd.f37.nfree = 0 := by kernel_rfl
theorem ntmps38 : Tryd.f38.ntmps = 24 := by kernel_rfl
theorem results38 : Tryd.f38.results = #[ResultVar.cell 6 24] := by kernel_rfl
theorem params38 : Tryd.f38.params = #[24, 3, 3] := by kernel_rfl
theorem nfree38 : Tryd.f38.nfree = 0 := by kernel_rfl
theorem ntmps39 : Tryd.f39.ntmps = 40 := by kernel_rfl
theorem results39 : Tryd.f39.results = #[ResultVar.cell 6 24] := by kernel_rfl
theorem params39 : Tryd.f39.params = #[24, 3, 36] := by kernel_rfl
theorem nfree39 : Tryd.f39.nfree = 0 := by kernel_rfl
theorem ntmps40 : Tryd.f40.ntmps = 13 := by kernel_rfl
theorem results40 : Tryd.f40.results = #[] := by kernel_rfl
theorem params40 : Tryd.f40.params = #[30] := by kernel_rfl
theorem nfree40 : Tryd.f40.nfree = 0 := by kernel_rfl
theorem ntmps41 : Tryd.f41.ntmps = 21 := by kernel_rfl
theorem results41 : Tryd.f41.results = #[ResultVar.tmp 6] := by kernel_rfl
theorem params41 : Tryd.f41.params = #[24, 3, 3] := by kernel_rfl
theorem nfree41 : Tryd.f41.nfree = 0 := by kernel_rfl
theorem ntmps42 : Tryd.f42.ntmps = 19 := by kernel_rfl
theorem results42 : Tryd.f42.results = #[ResultVar.tmp 4] := by kernel_rfl
theorem params42 : Tryd.f42.params = #[50, 3] := by kernel_rfl
theorem nfree42 : Tryd.f42.nfree = 0 := by kernel_rfl
theorem ntmps43 : Tryd.f43.ntmps = 21 := by kernel_rfl
theorem results43 : Tryd.f43.results = #[ResultVar.tmp 4] := by kernel_rfl
theorem params43 : Tryd.f43.params = #[22, 3] := by kernel_rfl
theorem nfree43 : Tryd.f43.nfree = 0 := by kernel_rfl
theorem ntmps44 : Tryd.f44.ntmps = 33 := by kernel_rfl
theorem results44 : Tryd.f44.results = #[ResultVar.tmp 2] := by kernel_rfl
theorem params44 : Tryd.f44.params = #[36] := by kernel_rfl
theorem nfree44 : Tryd.f44.nfree = 0 := by kernel_rfl
theorem ntmps45 : Tryd.f45.ntmps = 17 := by kernel_rfl
theorem results45 : Tryd.f45.results = #[ResultVar.cell 4 24] := by kernel_rfl
theorem params45 : Tryd.f45.params = #[24, 3] := by kernel_rfl
theorem nfree45 : Tryd.f45.nfree = 0 := by kernel_rfl
theorem ntmps46 : Tryd.f46.ntmps = 23 := by kernel_rfl
theorem results46 : Tryd.f46.results = #[ResultVar.tmp 4, ResultVar.tmp 5] := by kernel_rfl
theorem params46 : Tryd.f46.params = #[3, 3] := by kernel_rfl
theorem nfree46 : Tryd.f46.nfree = 0 := by kernel_rfl
theorem ntmps47 : Tryd.f47.ntmps = 5 := by kernel_rfl
theorem results47 : Tryd.f47.results = #[ResultVar.tmp 2] := by kernel_rfl
theorem params47 : Tryd.f47.params = #[24] := by kernel_rfl
theorem nfree47 : Tryd.f47.nfree = 0 := by kernel_rfl
theorem ntmps48 : Tryd.f48.ntmps = 32 := by kernel_rfl
theorem results48 : Tryd.f48.results = #[ResultVar.tmp 4] := by kernel_rfl
theorem params48 : Tryd.f48.params = #[36, 36] := by kernel_rfl
theorem nfree48 : Tryd.f48.nfree = 0 := by kernel_rfl
theorem ntmps49 : Tryd.f49.ntmps = 9 := by kernel_rfl
theorem results49 : Tryd.f49.results = #[ResultVar.cell 2 24] := by kernel_rfl
theorem params49 : Tryd.f49.params = #[89] := by kernel_rfl
theorem nfree49 : Tryd.f49.nfree = 0 := by kernel_rfl
theorem ntmps50 : Tryd.f50.ntmps = 5 := by kernel_rfl
theorem results50 : Tryd.f50.results = #[ResultVar.cell 2 24] := by kernel_rfl
theorem params50 : Tryd.f50.params = #[24] := by kernel_rfl
theorem nfree50 : Tryd.f50.nfree = 0 := by kernel_rfl
theorem ntmps51 : Tryd.f51.ntmps = 8 := by kernel_rfl
theorem results51 : Tryd.f51.results = #[ResultVar.tmp 2] := by kernel_rfl
theorem params51 : Tryd.f51.params = #[36] := by kernel_rfl
theorem nfree51 : Tryd.f51.nfree = 0 := by kernel_rfl
theorem ntmps52 : Tryd.f52.ntmps = 36 := by kernel_rfl
theorem results52 : Tryd.f52.results = #[ResultVar.cell 2 24] := by kernel_rfl
theorem params52 : Tryd.f52.params = #[24] := by kernel_rfl
theorem nfree52 : Tryd.f52.nfree = 0 := by kernel_rfl
theorem ntmps53 : Tryd.f53.ntmps = 5 := by kernel_rfl
theorem results53 : Tryd.f53.results = #[ResultVar.cell 2 24] := by kernel_rfl
theorem params53 : Tryd.f53.params = #[24] := by kernel_rfl
theorem nfree53 : Tryd.f53.nfree = 0 := by kernel_rfl
theorem ntmps54 : Tryd.f54.ntmps = 20 := by kernel_rfl
theorem results54 : Tryd.f54.results = #[ResultVar.cell 2 24] := by kernel_rfl
theorem params54 : Tryd.f54.params = #[24] := by kernel_rfl
theorem nfree54 : Tryd.f54.nfree = 0 := by kernel_rfl
theorem ntmps55 : Tryd.f55.ntmps = 44 := by kernel_rfl
theorem results55 : Tryd.f55.results = #[ResultVar.cell 2 24] := by kernel_rfl
theorem params55 : Tryd.f55.params = #[24] := by kernel_rfl
theorem nfree55 : Tryd.f55.nfree = 0 := by kernel_rfl
theorem ntmps56 : Tryd.f56.ntmps = 13 := by kernel_rfl
theorem results56 : Tryd.f56.results = #[ResultVar.tmp 2] := by kernel_rfl
theorem params56 : Tryd.f56.params = #[3] := by kernel_rfl
theorem nfree56 : Tryd.f56.nfree = 0 := by kernel_rfl
theorem ntmps57 : Tryd.f57.ntmps = 14 := by kernel_rfl
theorem results57 : Tryd.f57.results = #[ResultVar.tmp 2] := by kernel_rfl
theorem params57 : Tryd.f57.params = #[84] := by kernel_rfl
theorem nfree57 : Tryd.f57.nfree = 0 := by kernel_rfl
theorem ntmps58 : Tryd.f58.ntmps = 5 := by kernel_rfl
theorem results58 : Tryd.f58.results = #[ResultVar.tmp 2] := by kernel_rfl
theorem params58 : Tryd.f58.params = #[36] := by kernel_rfl
theorem nfree58 : Tryd.f58.nfree = 0 := by kernel_rfl
theorem ntmps59 : Tryd.f59.ntmps = 22 := by kernel_rfl
theorem results59 : Tryd.f59.results = #[ResultVar.cell 6 24] := by kernel_rfl
theorem params59 : Tryd.f59.params = #[24, 3, 3] := by kernel_rfl
theorem nfree59 : Tryd.f59.nfree = 0 := by kernel_rfl
theorem ntmps60 : Tryd.f60.ntmps = 28 := by kernel_rfl
theorem results60 : Tryd.f60.results = #[ResultVar.cell 2 24] := by kernel_rfl
theorem params60 : Tryd.f60.params = #[24] := by kernel_rfl
theorem nfree60 : Tryd.f60.nfree = 0 := by kernel_rfl
theorem ntmps61 : Tryd.f61.ntmps = 28 := by kernel_rfl
theorem results61 : Tryd.f61.results = #[ResultVar.cell 0 95] := by kernel_rfl
theorem params61 : Tryd.f61.params = #[] := by kernel_rfl
theorem nfree61 : Tryd.f61.nfree = 0 := by kernel_rfl
theorem ntmps62 : Tryd.f62.ntmps = 18 := by kernel_rfl
theorem results62 : Tryd.f62.results = #[ResultVar.tmp 4] := by kernel_rfl
theorem params62 : Tryd.f62.params = #[22, 3] := by kernel_rfl
theorem nfree62 : Tryd.f62.nfree = 0 := by kernel_rfl
theorem ntmps63 : Tryd.f63.ntmps = 36 := by kernel_rfl
theorem results63 : Tryd.f63.results = #[ResultVar.tmp 2] := by kernel_rfl
theorem params63 : Tryd.f63.params = #[84] := by kernel_rfl
theorem nfree63 : Tryd.f63.nfree = 0 := by kernel_rfl
@[simp] theorem ntmps64 : Star.f64.ntmps = 9 := by kernel_rfl
@[simp] theorem results64 : Star.f64.results = #[ResultVar.tmp 4] := by kernel_rfl
@[simp] theorem params64 : Star.f64.params = #[36, 3] := by kernel_rfl
@[simp] theorem nfree64 : Star.f64.nfree = 0 := by kernel_rfl
theorem ntmps65 : Tryd.f65.ntmps = 5 := by kernel_rfl
theorem results65 : Tryd.f65.results = #[ResultVar.tmp 0] := by kernel_rfl
theorem params65 : Tryd.f65.params = #[] := by kernel_rfl
theorem nfree65 : Tryd.f65.nfree = 0 := by kernel_rfl
theorem ntmps66 : Tryd.f66.ntmps = 28 := by kernel_rfl
theorem results66 : Tryd.f66.results = #[] := by kernel_rfl
theorem params66 : Tryd.f66.params = #[36] := by kernel_rfl
theorem nfree66 : Tryd.f66.nfree = 0 := by kernel_rfl
theorem ntmps67 : Tryd.f67.ntmps = 34 := by kernel_rfl
theorem results67 : Tryd.f67.results = #[ResultVar.tmp 4] := by kernel_rfl
theorem params67 : Tryd.f67.params = #[36, 105] := by kernel_rfl
theorem nfree67 : Tryd.f67.nfree = 0 := by kernel_rfl
theorem ntmps68 : Tryd.f68.ntmps = 16 := by kernel_rfl
theorem results68 : Tryd.f68.results = #[ResultVar.tmp 2] := by kernel_rfl
theorem params68 : Tryd.f68.params = #[36] := by kernel_rfl
theorem nfree68 : Tryd.f68.nfree = 0 := by kernel_rfl
theorem ntmps69 : Tryd.f69.ntmps = 6 := by kernel_rfl
theorem results69 : Tryd.f69.results = #[ResultVar.tmp 2] := by kernel_rfl
theorem params69 : Tryd.f69.params = #[3] := by kernel_rfl
theorem nfree69 : Tryd.f69.nfree = 0 := by kernel_rfl
theorem ntmps70 : Tryd.f70.ntmps = 12 := by kernel_rfl
theorem results70 : Tryd.f70.results = #[ResultVar.cell 4 24] := by kernel_rfl
theorem params70 : Tryd.f70.params = #[24, 3] := by kernel_rfl
theorem nfree70 : Tryd.f70.nfree = 0 := by kernel_rfl
theorem ntmps71 : Tryd.f71.ntmps = 13 := by kernel_rfl
theorem results71 : Tryd.f71.results = #[ResultVar.tmp 4] := by kernel_rfl
theorem params71 : Tryd.f71.params = #[3, 3] := by kernel_rfl
theorem nfree71 : Tryd.f71.nfree = 0 := by kernel_rfl
theorem ntmps72 : Tryd.f72.ntmps = 31 := by kernel_rfl
theorem results72 : Tryd.f72.results = #[] := by kernel_rfl
theorem params72 : Tryd.f72.params = #[109] := by kernel_rfl
theorem nfree72 : Tryd.f72.nfree = 2 := by kernel_rfl
theorem ntmps73 : Tryd.f73.ntmps = 25 := by kernel_rfl
theorem results73 : Tryd.f73.results = #[ResultVar.tmp 2] := by kernel_rfl
theorem params73 : Tryd.f73.params = #[22] := by kernel_rfl
theorem nfree73 : Tryd.f73.nfree = 0 := by kernel_rfl
theorem ntmps74 : Tryd.f74.ntmps = 4 := by kernel_rfl
theorem results74 : Tryd.f74.results = #[ResultVar.tmp 2] := by kernel_rfl
theorem params74 : Tryd.f74.params = #[36] := by kernel_rfl
theorem nfree74 : Tryd.f74.nfree = 0 := by kernel_rfl
theorem ntmps75 : Tryd.f75.ntmps = 12 := by kernel_rfl
theorem results75 : Tryd.f75.results = #[ResultVar.cell 4 24] := by kernel_rfl
theorem params75 : Tryd.f75.params = #[24, 3] := by kernel_rfl
theorem nfree75 : Tryd.f75.nfree = 0 := by kernel_rfl
theorem ntmps76 : Tryd.f76.ntmps = 35 := by kernel_rfl
theorem results76 : Tryd.f76.results = #[ResultVar.cell 2 24] := by kernel_rfl
theorem params76 : Tryd.f76.params = #[24] := by kernel_rfl
theorem nfree76 : Tryd.f76.nfree = 0 := by kernel_rfl
theorem ntmps77 : Tryd.f77.ntmps = 26 := by kernel_rfl
theorem results77 : Tryd.f77.results = #[ResultVar.cell 2 24] := by kernel_rfl
theorem params77 : Tryd.f77.params = #[24] := by kernel_rfl
theorem nfree77 : Tryd.f77.nfree = 0 := by kernel_rfl
theorem ntmps78 : Tryd.f78.ntmps = 23 := by kernel_rfl
theorem results78 : Tryd.f78.results = #[ResultVar.cell 2 24] := by kernel_rfl
theorem params78 : Tryd.f78.params = #[24] := by kernel_rfl
theorem nfree78 : Tryd.f78.nfree = 0 := by kernel_rfl
theorem ntmps79 : Tryd.f79.ntmps = 22 := by kernel_rfl
theorem results79 : Tryd.f79.results = #[ResultVar.cell 2 24] := by kernel_rfl
theorem params79 : Tryd.f79.params = #[24] := by kernel_rfl
theorem nfree79 : Tryd.f79.nfree = 0 := by kernel_rfl
theorem ntmps80 : Tryd.f80.ntmps = 19 := by kernel_rfl
theorem results80 : Tryd.f80.results = #[] := by kernel_rfl
theorem params80 : Tryd.f80.params = #[114] := by kernel_rfl
theorem nfree80 : Tryd.f80.nfree = 1 := by kernel_rfl
theorem ntmps81 : Tryd.f81.ntmps = 36 := by kernel_rfl
theorem results81 : Tryd.f81.results = #[ResultVar.tmp 2] := by kernel_rfl
theorem params81 : Tryd.f81.params = #[3] := by kernel_rfl
theorem nfree81 : Tryd.f81.nfree = 0 := by kernel_rfl
theorem ntmps82 : Tryd.f82.ntmps = 11 := by kernel_rfl
theorem results82 : Tryd.f82.results = #[ResultVar.tmp 4] := by kernel_rfl
theorem params82 : Tryd.f82.params = #[3, 3] := by kernel_rfl
theorem nfree82 : Tryd.f82.nfree = 0 := by kernel_rfl
theorem ntmps83 : Tryd.f83.ntmps = 9 := by kernel_rfl
theorem results83 : Tryd.f83.results = #[ResultVar.tmp 4] := by kernel_rfl
theorem params83 : Tryd.f83.params = #[22, 3] := by kernel_rfl
theorem nfree83 : Tryd.f83.nfree = 0 := by kernel_rfl
theorem ntmps84 : Tryd.f84.ntmps = 24 := by kernel_rfl
theorem results84 : Tryd.f84.results = #[ResultVar.cell 2 98] := by kernel_rfl
theorem params84 : Tryd.f84.params = #[98] := by kernel_rfl
theorem nfree84 : Tryd.f84.nfree = 0 := by kernel_rfl
theorem ntmps85 : Tryd.f85.ntmps = 20 := by kernel_rfl
theorem results85 : Tryd.f85.results = #[ResultVar.cell 2 98] := by kernel_rfl
theorem params85 : Tryd.f85.params = #[24] := by kernel_rfl
theorem nfree85 : Tryd.f85.nfree = 0 := by kernel_rfl
theorem ntmps86 : Tryd.f86.ntmps = 11 := by kernel_rfl
theorem results86 : Tryd.f86.results = #[ResultVar.tmp 2] := by kernel_rfl
theorem params86 : Tryd.f86.params = #[22] := by kernel_rfl
theorem nfree86 : Tryd.f86.nfree = 0 := by kernel_rfl
theorem ntmps87 : Tryd.f87.ntmps = 7 := by kernel_rfl
theorem results87 : Tryd.f87.results = #[ResultVar.tmp 2] := by kernel_rfl
theorem params87 : Tryd.f87.params = #[3] := by kernel_rfl
theorem nfree87 : Tryd.f87.nfree = 0 := by kernel_rfl
theorem ntmps88 : Tryd.f88.ntmps = 17 := by kernel_rfl
theorem results88 : Tryd.f88.results = #[ResultVar.tmp 4] := by kernel_rfl
theorem params88 : Tryd.f88.params = #[22, 3] := by kernel_rfl
theorem nfree88 : Tryd.f88.nfree = 0 := by kernel_rfl
theorem ntmps89 : Tryd.f89.ntmps = 1 := by kernel_rfl
theorem results89 : Tryd.f89.results = #[] := by kernel_rfl
theorem params89 : Tryd.f89.params = #[8] := by kernel_rfl
theorem nfree89 : Tryd.f89.nfree = 0 := by kernel_rfl
theorem ntmps90 : Tryd.f90.ntmps = 1 := by kernel_rfl
theorem results90 : Tryd.f90.results = #[] := by kernel_rfl
theorem params90 : Tryd.f90.params = #[8] := by kernel_rfl
theorem nfree90 : Tryd.f90.nfree = 0 := by kernel_rfl
theorem ntmps91 : Tryd.f91.ntmps = 1 := by kernel_rfl
theorem results91 : Tryd.f91.results = #[] := by kernel_rfl
theorem params91 : Tryd.f91.params = #[10] := by kernel_rfl
theorem nfree91 : Tryd.f91.nfree = 0 := by kernel_rfl
theorem ntmps92 : Tryd.f92.ntmps = 1 := by kernel_rfl
theorem results92 : Tryd.f92.results = #[] := by kernel_rfl
theorem params92 : Tryd.f92.params = #[10] := by kernel_rfl
theorem nfree92 : Tryd.f92.nfree = 0 := by kernel_rfl
theorem ntmps93 : Tryd.f93.ntmps = 1 := by kernel_rfl
theorem results93 : Tryd.f93.results = #[] := by kernel_rfl
theorem params93 : Tryd.f93.params = #[11] := by kernel_rfl
theorem nfree93 : Tryd.f93.nfree = 0 := by kernel_rfl
theorem ntmps94 : Tryd.f94.ntmps = 1 := by kernel_rfl
theorem results94 : Tryd.f94.results = #[] := by kernel_rfl
theorem params94 : Tryd.f94.params = #[11] := by kernel_rfl
theorem nfree94 : Tryd.f94.nfree = 0 := by kernel_rfl
theorem ntmps95 : Tryd.f95.ntmps = 1 := by kernel_rfl
theorem results95 : Tryd.f95.results = #[] := by kernel_rfl
theorem params95 : Tryd.f95.params = #[14] := by kernel_rfl
theorem nfree95 : Tryd.f95.nfree = 0 := by kernel_rfl
theorem ntmps96 : Tryd.f96.ntmps = 1 := by kernel_rfl
theorem results96 : Tryd.f96.results = #[] := by kernel_rfl
theorem params96 : Tryd.f96.params = #[14] := by kernel_rfl
theorem nfree96 : Tryd.f96.nfree = 0 := by kernel_rfl
theorem ntmps97 : Tryd.f97.ntmps = 1 := by kernel_rfl
theorem results97 : Tryd.f97.results = #[] := by kernel_rfl
theorem params97 : Tryd.f97.params = #[15] := by kernel_rfl
theorem nfree97 : Tryd.f97.nfree = 0 := by kernel_rfl
theorem ntmps98 : Tryd.f98.ntmps = 1 := by kernel_rfl
theorem results98 : Tryd.f98.results = #[] := by kernel_rfl
theorem params98 : Tryd.f98.params = #[15] := by kernel_rfl
theorem nfree98 : Tryd.f98.nfree = 0 := by kernel_rfl
theorem ntmps99 : Tryd.f99.ntmps = 1 := by kernel_rfl
theorem results99 : Tryd.f99.results = #[] := by kernel_rfl
theorem params99 : Tryd.f99.params = #[16] := by kernel_rfl
theorem nfree99 : Tryd.f99.nfree = 0 := by kernel_rfl
theorem ntmps100 : Tryd.f100.ntmps = 1 := by kernel_rfl
theorem results100 : Tryd.f100.results = #[] := by kernel_rfl
theorem params100 : Tryd.f100.params = #[16] := by kernel_rfl
theorem nfree100 : Tryd.f100.nfree = 0 := by kernel_rfl
theorem ntmps101 : Tryd.f101.ntmps = 1 := by kernel_rfl
theorem results101 : Tryd.f101.results = #[] := by kernel_rfl
theorem params101 : Tryd.f101.params = #[17] := by kernel_rfl
theorem nfree101 : Tryd.f101.nfree = 0 := by kernel_rfl
theorem ntmps102 : Tryd.f102.ntmps = 1 := by kernel_rfl
theorem results102 : Tryd.f102.results = #[] := by kernel_rfl
theorem params102 : Tryd.f102.params = #[19] := by kernel_rfl
theorem nfree102 : Tryd.f102.nfree = 0 := by kernel_rfl
theorem ntmps103 : Tryd.f103.ntmps = 1 := by kernel_rfl
theorem results103 : Tryd.f103.results = #[] := by kernel_rfl
theorem params103 : Tryd.f103.params = #[19] := by kernel_rfl
theorem nfree103 : Tryd.f103.nfree = 0 := by kernel_rfl
theorem ntmps104 : Tryd.f104.ntmps = 1 := by kernel_rfl
theorem results104 : Tryd.f104.results = #[] := by kernel_rfl
theorem params104 : Tryd.f104.params = #[31] := by kernel_rfl
theorem nfree104 : Tryd.f104.nfree = 0 := by kernel_rfl
theorem ntmps105 : Tryd.f105.ntmps = 1 := by kernel_rfl
theorem results105 : Tryd.f105.results = #[] := by kernel_rfl
theorem params105 : Tryd.f105.params = #[128] := by kernel_rfl
theorem nfree105 : Tryd.f105.nfree = 0 := by kernel_rfl
theorem ntmps106 : Tryd.f106.ntmps = 0 := by kernel_rfl
theorem results106 : Tryd.f106.results = #[] := by kernel_rfl
theorem params106 : Tryd.f106.params = #[] := by kernel_rfl
theorem nfree106 : Tryd.f106.nfree = 0 := by kernel_rfl
theorem ntmps107 : Tryd.f107.ntmps = 0 := by kernel_rfl
theorem results107 : Tryd.f107.results = #[] := by kernel_rfl
theorem params107 : Tryd.f107.params = #[] := by kernel_rfl
theorem nfree107 : Tryd.f107.nfree = 0 := by kernel_rfl
theorem ntmps108 : Tryd.f108.ntmps = 0 := by kernel_rfl
theorem results108 : Tryd.f108.results = #[] := by kernel_rfl
theorem params108 : Tryd.f108.params = #[] := by kernel_rfl
theorem nfree108 : Tryd.f108.nfree = 0 := by kernel_rfl
theorem ntmps109 : Tryd.f109.ntmps = 6 := by kernel_rfl
theorem results109 : Tryd.f109.results = #[] := by kernel_rfl
theorem params109 : Tryd.f109.params = #[] := by kernel_rfl
theorem nfree109 : Tryd.f109.nfree = 0 := by kernel_rfl
theorem hard : Tryd.prog.funcs.size = 110 := by kernel_rfl
end
end Star
end Go.Proofs.YtopelmhpahohfaaDoor
