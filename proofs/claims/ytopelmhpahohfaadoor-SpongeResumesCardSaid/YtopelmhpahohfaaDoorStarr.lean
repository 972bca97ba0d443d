/- Made by genstar.py: the private program, and what the loader's facts say of the real one, of it. -/
import Derived.Test.YtopelmhpahohfaaDoorBna
import Derived.Test.YtopelmhpahohfaaDoorRows
namespace Go.Proofs.YtopelmhpahohfaaDoor
set_option linter.unusedVariables false
set_option maxRecDepth 20000
namespace Star
open Co
noncomputable section
noncomputable def prog : Program := starProg 12 110 111 Tryd.prog #[]
noncomputable def f64 : Func := { Tryd.f64 with body := some ((Code.region 0 #[{ dst := some 2, op := Op.box 36 (Operand.tmp 0), type := 0, pos := "iter.go:97", after := #[], guard := none }, { dst := some 3, op := Op.box 3 (Operand.tmp 1), type := 0, pos := "iter.go:97", after := #[], guard := none }, { dst := some 4, op := Op.assign (Operand.const Value.nilFunc), type := 101, pos := "iter.go:97", after := #[], guard := none }] false).seq (((Code.region 1 #[{ dst := some 5, op := Op.load 3 (Operand.tmp 3), type := 3, pos := "iter.go:98", after := #[], guard := none }, { dst := some 6, op := Op.binOp BinOp.lss 3 (Operand.tmp 5) (Operand.const (Value.int IntKind.i64 1)) 3, type := 4, pos := "iter.go:98", after := #[{ on := 0, ground := Ground.data }], guard := none }] false).seq (Code.cond (Operand.tmp 6) (Code.region 2 #[{ dst := some 7, op := Op.makeInterface 9 (Operand.const (Value.string { data := #[99, 97, 110, 110, 111, 116, 32, 98, 101, 32, 108, 101, 115, 115, 32, 116, 104, 97, 110, 32, 49] })), type := 20, pos := "iter.go:99", after := #[], guard := none }, { dst := none, op := tagOp 4, type := 0, pos := "iter.go:99", after := #[{ on := 0, ground := Ground.data }], guard := none }] false) Code.skip)).seq ((Code.region 3 #[{ dst := some 8, op := Op.makeFunc (Fn.func 72) #[] #[Operand.tmp 2, Operand.tmp 3], type := 100, pos := "iter.go:102", after := #[], guard := none }, { dst := some 4, op := Op.assign (Operand.tmp 8), type := 101, pos := "iter.go:102", after := #[{ on := 0, ground := Ground.data }, { on := 0, ground := Ground.phase }], guard := none }] false).seq Code.ret))) }
@[simp] theorem call10 : ∀ (args : Array Value) (w : World), Sem.run Star.prog (callFunc 10 args) w = Result.ok (Next.enter 10 args) w := by intro args w; kernel_rfl
@[simp] theorem call109 : ∀ (args : Array Value) (w : World), Sem.run Star.prog (callFunc 109 args) w = Result.ok (Next.enter 109 args) w := by intro args w; kernel_rfl
@[simp] theorem call11 : ∀ (args : Array Value) (w : World), Sem.run Star.prog (callFunc 11 args) w = Result.ok (Next.enter 11 args) w := by intro args w; kernel_rfl
@[simp] theorem call12 : ∀ (args : Array Value) (w : World), Sem.run Star.prog (callFunc 12 args) w = Result.ok (Next.enter 12 args) w := by intro args w; kernel_rfl
@[simp] theorem call13 : ∀ (args : Array Value) (w : World), Sem.run Star.prog (callFunc 13 args) w = Result.ok (Next.enter 13 args) w := by intro args w; kernel_rfl
@[simp] theorem call14 : ∀ (args : Array Value) (w : World), Sem.run Star.prog (callFunc 14 args) w = Result.ok (Next.enter 14 args) w := by intro args w; kernel_rfl
@[simp] theorem call15 : ∀ (args : Array Value) (w : World), Sem.run Star.prog (callFunc 15 args) w = Result.ok (Next.enter 15 args) w := by intro args w; kernel_rfl
@[simp] theorem call16 : ∀ (args : Array Value) (w : World), Sem.run Star.prog (callFunc 16 args) w = Result.ok (Next.enter 16 args) w := by intro args w; kernel_rfl
@[simp] theorem call17 : ∀ (args : Array Value) (w : World), Sem.run Star.prog (callFunc 17 args) w = Result.ok (Next.enter 17 args) w := by intro args w; kernel_rfl
@[simp] theorem call18 : ∀ (args : Array Value) (w : World), Sem.run Star.prog (callFunc 18 args) w = Result.ok (Next.enter 18 args) w := by intro args w; kernel_rfl
@[simp] theorem call19 : ∀ (args : Array Value) (w : World), Sem.run Star.prog (callFunc 19 args) w = Result.ok (Next.enter 19 args) w := by intro args w; kernel_rfl
@[simp] theorem call2 : ∀ (args : Array Value) (w : World), Sem.run Star.prog (callFunc 2 args) w = Result.ok (Next.enter 2 args) w := by intro args w; kernel_rfl
@[simp] theorem call20 : ∀ (args : Array Value) (w : World), Sem.run Star.prog (callFunc 20 args) w = Result.ok (Next.enter 20 args) w := by intro args w; kernel_rfl
@[simp] theorem call21 : ∀ (args : Array Value) (w : World), Sem.run Star.prog (callFunc 21 args) w = Result.ok (Next.enter 21 args) w := by intro args w; kernel_rfl
@[simp] theorem call22 : ∀ (args : Array Value) (w : World), Sem.run Star.prog (callFunc 22 args) w = Result.ok (Next.enter 22 args) w := by intro args w; kernel_rfl
@[simp] theorem call23 : ∀ (args : Array Value) (w : World), Sem.run Star.prog (callFunc 23 args) w = Result.ok (Next.enter 23 args) w := by intro args w; kernel_rfl
@[simp] theorem call24 : ∀ (args : Array Value) (w : World), Sem.run Star.prog (callFunc 24 args) w = Result.ok (Next.enter 24 args) w := by intro args w; kernel_rfl
@[simp] theorem call25 : ∀ (args : Array Value) (w : World), Sem.run Star.prog (callFunc 25 args) w = Result.ok (Next.enter 25 args) w := by intro args w; kernel_rfl
@[simp] theorem call26 : ∀ (args : Array Value) (w : World), Sem.run Star.prog (callFunc 26 args) w = Result.ok (Next.enter 26 args) w := by intro args w; kernel_rfl
@[simp] theorem call27 : ∀ (args : Array Value) (w : World), Sem.run Star.prog (callFunc 27 args) w = Result.ok (Next.enter 27 args) w := by intro args w; kernel_rfl
@[simp] theorem call28 : ∀ (args : Array Value) (w : World), Sem.run Star.prog (callFunc 28 args) w = Result.ok (Next.enter 28 args) w := by intro args w; kernel_rfl
@[simp] theorem call29 : ∀ (args : Array Value) (w : World), Sem.run Star.prog (callFunc 29 args) w = Result.ok (Next.enter 29 args) w := by intro args w; kernel_rfl
@[simp] theorem call3 : ∀ (args : Array Value) (w : World), Sem.run Star.prog (callFunc 3 args) w = Result.ok (Next.enter 3 args) w := by intro args w; kernel_rfl
@[simp] theorem call30 : ∀ (args : Array Value) (w : World), Sem.run Star.prog (callFunc 30 args) w = Result.ok (Next.enter 30 args) w := by intro args w; kernel_rfl
@[simp] theorem call31 : ∀ (args : Array Value) (w : World), Sem.run Star.prog (callFunc 31 args) w = Result.ok (Next.enter 31 args) w := by intro args w; kernel_rfl
@[simp] theorem call32 : ∀ (args : Array Value) (w : World), Sem.run Star.prog (callFunc 32 args) w = Result.ok (Next.enter 32 args) w := by intro args w; kernel_rfl
@[simp] theorem call33 : ∀ (args : Array Value) (w : World), Sem.run Star.prog (callFunc 33 args) w = Result.ok (Next.enter 33 args) w := by intro args w; kernel_rfl
@[simp] theorem call34 : ∀ (args : Array Value) (w : World), Sem.run Star.prog (callFunc 34 args) w = Result.ok (Next.enter 34 args) w := by intro args w; kernel_rfl
@[simp] theorem call35 : ∀ (args : Array Value) (w : World), Sem.run Star.prog (callFunc 35 args) w = Result.ok (Next.enter 35 args) w := by intro args w; kernel_rfl
@[simp] theorem call36 : ∀ (args : Array Value) (w : World), Sem.run Star.prog (callFunc 36 args) w = Result.ok (Next.enter 36 args) w := by intro args w; kernel_rfl
@[simp] theorem call37 : ∀ (args : Array Value) (w : World), Sem.run Star.prog (callFunc 37 args) w = Result.ok (Next.enter 37 args) w := by intro args w; kernel_rfl
@[simp] theorem call38 : ∀ (args : Array Value) (w : World), Sem.run Star.prog (callFunc 38 args) w = Result.ok (Next.enter 38 args) w := by intro args w; kernel_rfl
@[simp] theorem call39 : ∀ (args : Array Value) (w : World), Sem.run Star.prog (callFunc 39 args) w = Result.ok (Next.enter 39 args) w := by intro args w; kernel_rfl
@[simp] theorem call4 : ∀ (args : Array Value) (w : World), Sem.run Star.prog (callFunc 4 args) w = Result.ok (Next.enter 4 args) w := by intro args w; kernel_rfl
@[simp] theorem call40 : ∀ (args : Array Value) (w : World), Sem.run Star.prog (callFunc 40 args) w = Result.ok (Next.enter 40 args) w := by intro args w; kernel_rfl
@[simp] theorem call41 : ∀ (args : Array Value) (w : World), Sem.run Star.prog (callFunc 41 args) w = Result.ok (Next.enter 41 args) w := by intro args w; kernel_rfl
@[simp] theorem call42 : ∀ (args : Array Value) (w : World), Sem.run Star.prog (callFunc 42 args) w = Result.ok (Next.enter 42 args) w := by intro args w; kernel_rfl
@[simp] theorem call43 : ∀ (args : Array Value) (w : World), Sem.run Star.prog (callFunc 43 args) w = Result.ok (Next.enter 43 args) w := by intro args w; kernel_rfl
@[simp] theorem call44 : ∀ (args : Array Value) (w : World), Sem.run Star.prog (callFunc 44 args) w = Result.ok (Next.enter 44 args) w := by intro args w; kernel_rfl
@[simp] theorem call45 : ∀ (args : Array Value) (w : World), Sem.run Star.prog (callFunc 45 args) w = Result.ok (Next.enter 45 args) w := by intro args w; kernel_rfl
@[simp] theorem call46 : ∀ (args : Array Value) (w : World), Sem.run Star.prog (callFunc 46 args) w = Result.ok (Next.enter 46 args) w := by intro args w; kernel_rfl
@[simp] theorem call47 : ∀ (args : Array Value) (w : World), Sem.run Star.prog (callFunc 47 args) w = Result.ok (Next.enter 47 args) w := by intro args w; kernel_rfl
@[simp] theorem call48 : ∀ (args : Array Value) (w : World), Sem.run Star.prog (callFunc 48 args) w = Result.ok (Next.enter 48 args) w := by intro args w; kernel_rfl
@[simp] theorem call49 : ∀ (args : Array Value) (w : World), Sem.run Star.prog (callFunc 49 args) w = Result.ok (Next.enter 49 args) w := by intro args w; kernel_rfl
@[simp] theorem call5 : ∀ (args : Array Value) (w : World), Sem.run Star.prog (callFunc 5 args) w = Result.ok (Next.enter 5 args) w := by intro args w; kernel_rfl
@[simp] theorem call50 : ∀ (args : Array Value) (w : World), Sem.run Star.prog (callFunc 50 args) w = Result.ok (Next.enter 50 args) w := by intro args w; kernel_rfl
@[simp] theorem call51 : ∀ (args : Array Value) (w : World), Sem.run Star.prog (callFunc 51 args) w = Result.ok (Next.enter 51 args) w := by intro args w; kernel_rfl
@[simp] theorem call52 : ∀ (args : Array Value) (w : World), Sem.run Star.prog (callFunc 52 args) w = Result.ok (Next.enter 52 args) w := by intro args w; kernel_rfl
@[simp] theorem call53 : ∀ (args : Array Value) (w : World), Sem.run Star.prog (callFunc 53 args) w = Result.ok (Next.enter 53 args) w := by intro args w; kernel_rfl
@[simp] theorem call54 : ∀ (args : Array Value) (w : World), Sem.run Star.prog (callFunc 54 args) w = Result.ok (Next.enter 54 args) w := by intro args w; kernel_rfl
@[simp] theorem call55 : ∀ (args : Array Value) (w : World), Sem.run Star.prog (callFunc 55 args) w = Result.ok (Next.enter 55 args) w := by intro args w; kernel_rfl
@[simp] theorem call56 : ∀ (args : Array Value) (w : World), Sem.run Star.prog (callFunc 56 args) w = Result.ok (Next.enter 56 args) w := by intro args w; kernel_rfl
@[simp] theorem call57 : ∀ (args : Array Value) (w : World), Sem.run Star.prog (callFunc 57 args) w = Result.ok (Next.enter 57 args) w := by intro args w; kernel_rfl
@[simp] theorem call58 : ∀ (args : Array Value) (w : World), Sem.run Star.prog (callFunc 58 args) w = Result.ok (Next.enter 58 args) w := by intro args w; kernel_rfl
@[simp] theorem call59 : ∀ (args : Array Value) (w : World), Sem.run Star.prog (callFunc 59 args) w = Result.ok (Next.enter 59 args) w := by intro args w; kernel_rfl
@[simp] theorem call6 : ∀ (args : Array Value) (w : World), Sem.run Star.prog (callFunc 6 args) w = Result.ok (Next.enter 6 args) w := by intro args w; kernel_rfl
@[simp] theorem call60 : ∀ (args : Array Value) (w : World), Sem.run Star.prog (callFunc 60 args) w = Result.ok (Next.enter 60 args) w := by intro args w; kernel_rfl
@[simp] theorem call61 : ∀ (args : Array Value) (w : World), Sem.run Star.prog (callFunc 61 args) w = Result.ok (Next.enter 61 args) w := by intro args w; kernel_rfl
@[simp] theorem call62 : ∀ (args : Array Value) (w : World), Sem.run Star.prog (callFunc 62 args) w = Result.ok (Next.enter 62 args) w := by intro args w; kernel_rfl
@[simp] theorem call63 : ∀ (args : Array Value) (w : World), Sem.run Star.prog (callFunc 63 args) w = Result.ok (Next.enter 63 args) w := by intro args w; kernel_rfl
@[simp] theorem call64 : ∀ (args : Array Value) (w : World), Sem.run Star.prog (callFunc 64 args) w = Result.ok (Next.enter 64 args) w := by intro args w; kernel_rfl
@[simp] theorem call65 : ∀ (args : Array Value) (w : World), Sem.run Star.prog (callFunc 65 args) w = Result.ok (Next.enter 65 args) w := by intro args w; kernel_rfl
@[simp] theorem call66 : ∀ (args : Array Value) (w : World), Sem.run Star.prog (callFunc 66 args) w = Result.ok (Next.enter 66 args) w := by intro args w; kernel_rfl
@[simp] theorem call67 : ∀ (args : Array Value) (w : World), Sem.run Star.prog (callFunc 67 args) w = Result.ok (Next.enter 67 args) w := by intro args w; kernel_rfl
@[simp] theorem call68 : ∀ (args : Array Value) (w : World), Sem.run Star.prog (callFunc 68 args) w = Result.ok (Next.enter 68 args) w := by intro args w; kernel_rfl
@[simp] theorem call69 : ∀ (args : Array Value) (w : World), Sem.run Star.prog (callFunc 69 args) w = Result.ok (Next.enter 69 args) w := by intro args w; kernel_rfl
@[simp] theorem call7 : ∀ (args : Array Value) (w : World), Sem.run Star.prog (callFunc 7 args) w = Result.ok (Next.enter 7 args) w := by intro args w; kernel_rfl
@[simp] theorem call70 : ∀ (args : Array Value) (w : World), Sem.run Star.prog (callFunc 70 args) w = Result.ok (Next.enter 70 args) w := by intro args w; kernel_rfl
@[simp] theorem call71 : ∀ (args : Array Value) (w : World), Sem.run Star.prog (callFunc 71 args) w = Result.ok (Next.enter 71 args) w := by intro args w; kernel_rfl
@[simp] theorem call72 : ∀ (args : Array Value) (w : World), Sem.run Star.prog (callFunc 72 args) w = Result.ok (Next.enter 72 args) w := by intro args w; kernel_rfl
@[simp] theorem call73 : ∀ (args : Array Value) (w : World), Sem.run Star.prog (callFunc 73 args) w = Result.ok (Next.enter 73 args) w := by intro args w; kernel_rfl
@[simp] theorem call74 : ∀ (args : Array Value) (w : World), Sem.run Star.prog (callFunc 74 args) w = Result.ok (Next.enter 74 args) w := by intro args w; kernel_rfl
@[simp] theorem call75 : ∀ (args : Array Value) (w : World), Sem.run Star.prog (callFunc 75 args) w = Result.ok (Next.enter 75 args) w := by intro args w; kernel_rfl
@[simp] theorem call76 : ∀ (args : Array Value) (w : World), Sem.run Star.prog (callFunc 76 args) w = Result.ok (Next.enter 76 args) w := by intro args w; kernel_rfl
@[simp] theorem call77 : ∀ (args : Array Value) (w : World), Sem.run Star.prog (callFunc 77 args) w = Result.ok (Next.enter 77 args) w := by intro args w; kernel_rfl
@[simp] theorem call78 : ∀ (args : Array Value) (w : World), Sem.run Star.prog (callFunc 78 args) w = Result.ok (Next.enter 78 args) w := by intro args w; kernel_rfl
@[simp] theorem call79 : ∀ (args : Array Value) (w : World), Sem.run Star.prog (callFunc 79 args) w = Result.ok (Next.enter 79 args) w := by intro args w; kernel_rfl
@[simp] theorem call8 : ∀ (args : Array Value) (w : World), Sem.run Star.prog (callFunc 8 args) w = Result.ok (Next.enter 8 args) w := by intro args w; kernel_rfl
@[simp] theorem call80 : ∀ (args : Array Value) (w : World), Sem.run Star.prog (callFunc 80 args) w = Result.ok (Next.enter 80 args) w := by intro args w; kernel_rfl
@[simp] theorem call81 : ∀ (args : Array Value) (w : World), Sem.run Star.prog (callFunc 81 args) w = Result.ok (Next.enter 81 args) w := by intro args w; kernel_rfl
@[simp] theorem call82 : ∀ (args : Array Value) (w : World), Sem.run Star.prog (callFunc 82 args) w = Result.ok (Next.enter 82 args) w := by intro args w; kernel_rfl
@[simp] theorem call83 : ∀ (args : Array Value) (w : World), Sem.run Star.prog (callFunc 83 args) w = Result.ok (Next.enter 83 args) w := by intro args w; kernel_rfl
@[simp] theorem call84 : ∀ (args : Array Value) (w : World), Sem.run Star.prog (callFunc 84 args) w = Result.ok (Next.enter 84 args) w := by intro args w; kernel_rfl
@[simp] theorem call85 : ∀ (args : Array Value) (w : World), Sem.run Star.prog (callFunc 85 args) w = Result.ok (Next.enter 85 args) w := by intro args w; kernel_rfl
@[simp] theorem call86 : ∀ (args : Array Value) (w : World), Sem.run Star.prog (callFunc 86 args) w = Result.ok (Next.enter 86 args) w := by intro args w; kernel_rfl
@[simp] theorem call87 : ∀ (args : Array Value) (w : World), Sem.run Star.prog (callFunc 87 args) w = Result.ok (Next.enter 87 args) w := by intro args w; kernel_rfl
@[simp] theorem call88 : ∀ (args : Array Value) (w : World), Sem.run Star.prog (callFunc 88 args) w = Result.ok (Next.enter 88 args) w := by intro args w; kernel_rfl
@[simp] theorem call9 : ∀ (args : Array Value) (w : World), Sem.run Star.prog (callFunc 9 args) w = Result.ok (Next.enter 9 args) w := by intro args w; kernel_rfl
@[simp] theorem eqGuardType115 : Star.prog.eqGuardType Star.prog.depth 115 = false := by kernel_rfl
@[simp] theorem eqGuardType116 : Star.prog.eqGuardType Star.prog.depth 116 = false := by kernel_rfl
@[simp] theorem eqGuardType121 : Star.prog.eqGuardType Star.prog.depth 121 = false := by kernel_rfl
@[simp] theorem eqGuardType122 : Star.prog.eqGuardType Star.prog.depth 122 = false := by kernel_rfl
@[simp] theorem eqGuardType123 : Star.prog.eqGuardType Star.prog.depth 123 = false := by kernel_rfl
@[simp] theorem eqGuardType124 : Star.prog.eqGuardType Star.prog.depth 124 = false := by kernel_rfl
@[simp] theorem eqGuardType125 : Star.prog.eqGuardType Star.prog.depth 125 = false := by kernel_rfl
@[simp] theorem eqGuardType13 : Star.prog.eqGuardType Star.prog.depth 13 = false := by kernel_rfl
@[simp] theorem eqGuardType133 : Star.prog.eqGuardType Star.prog.depth 133 = false := by kernel_rfl
@[simp] theorem eqGuardType134 : Star.prog.eqGuardType Star.prog.depth 134 = false := by kernel_rfl
@[simp] theorem eqGuardType14 : Star.prog.eqGuardType Star.prog.depth 14 = false := by kernel_rfl
@[simp] theorem eqGuardType18 : Star.prog.eqGuardType Star.prog.depth 18 = false := by kernel_rfl
@[simp] theorem eqGuardType19 : Star.prog.eqGuardType Star.prog.depth 19 = false := by kernel_rfl
@[simp] theorem eqGuardType23 : Star.prog.eqGuardType Star.prog.depth 23 = false := by kernel_rfl
@[simp] theorem eqGuardType24 : Star.prog.eqGuardType Star.prog.depth 24 = false := by kernel_rfl
@[simp] theorem eqGuardType25 : Star.prog.eqGuardType Star.prog.depth 25 = false := by kernel_rfl
@[simp] theorem eqGuardType26 : Star.prog.eqGuardType Star.prog.depth 26 = false := by kernel_rfl
@[simp] theorem eqGuardType37 : Star.prog.eqGuardType Star.prog.depth 37 = false := by kernel_rfl
@[simp] theorem eqGuardType38 : Star.prog.eqGuardType Star.prog.depth 38 = false := by kernel_rfl
@[simp] theorem eqGuardType44 : Star.prog.eqGuardType Star.prog.depth 44 = false := by kernel_rfl
@[simp] theorem eqGuardType45 : Star.prog.eqGuardType Star.prog.depth 45 = false := by kernel_rfl
@[simp] theorem eqGuardType55 : Star.prog.eqGuardType Star.prog.depth 55 = false := by kernel_rfl
@[simp] theorem eqGuardType61 : Star.prog.eqGuardType Star.prog.depth 61 = false := by kernel_rfl
@[simp] theorem eqGuardType62 : Star.prog.eqGuardType Star.prog.depth 62 = false := by kernel_rfl
@[simp] theorem eqGuardType7 : Star.prog.eqGuardType Star.prog.depth 7 = false := by kernel_rfl
@[simp] theorem eqGuardType77 : Star.prog.eqGuardType Star.prog.depth 77 = false := by kernel_rfl
@[simp] theorem eqGuardType8 : Star.prog.eqGuardType Star.prog.depth 8 = false := by kernel_rfl
@[simp] theorem eqGuardType89 : Star.prog.eqGuardType Star.prog.depth 89 = false := by kernel_rfl
@[simp] theorem eqGuardType95 : Star.prog.eqGuardType Star.prog.depth 95 = false := by kernel_rfl
@[simp] theorem eqGuardType98 : Star.prog.eqGuardType Star.prog.depth 98 = false := by kernel_rfl
@[simp] theorem func0 : Star.prog.funcs[0]? = some Tryd.f0 := by kernel_rfl
@[simp] theorem func1 : Star.prog.funcs[1]? = some Tryd.f1 := by kernel_rfl
@[simp] theorem func10 : Star.prog.funcs[10]? = some Tryd.f10 := by kernel_rfl
@[simp] theorem func100 : Star.prog.funcs[100]? = some Tryd.f100 := by kernel_rfl
@[simp] theorem func101 : Star.prog.funcs[101]? = some Tryd.f101 := by kernel_rfl
@[simp] theorem func102 : Star.prog.funcs[102]? = some Tryd.f102 := by kernel_rfl
@[simp] theorem func103 : Star.prog.funcs[103]? = some Tryd.f103 := by kernel_rfl
@[simp] theorem func104 : Star.prog.funcs[104]? = some Tryd.f104 := by kernel_rfl
@[simp] theorem func105 : Star.prog.funcs[105]? = some Tryd.f105 := by kernel_rfl
@[simp] theorem func106 : Star.prog.funcs[106]? = some Tryd.f106 := by kernel_rfl
@[simp] theorem func107 : Star.prog.funcs[107]? = some Tryd.f107 := by kernel_rfl
@[simp] theorem func108 : Star.prog.funcs[108]? = some Tryd.f108 := by kernel_rfl
@[simp] theorem func109 : Star.prog.funcs[109]? = some Tryd.f109 := by kernel_rfl
@[simp] theorem func11 : Star.prog.funcs[11]? = some Tryd.f11 := by kernel_rfl
@[simp] theorem func13 : Star.prog.funcs[13]? = some Tryd.f13 := by kernel_rfl
@[simp] theorem func14 : Star.prog.funcs[14]? = some Tryd.f14 := by kernel_rfl
@[simp] theorem func15 : Star.prog.funcs[15]? = some Tryd.f15 := by kernel_rfl
@[simp] theorem func16 : Star.prog.funcs[16]? = some Tryd.f16 := by kernel_rfl
@[simp] theorem func17 : Star.prog.funcs[17]? = some Tryd.f17 := by kernel_rfl
@[simp] theorem func18 : Star.prog.funcs[18]? = some Tryd.f18 := by kernel_rfl
@[simp] theorem func19 : Star.prog.funcs[19]? = some Tryd.f19 := by kernel_rfl
@[simp] theorem func2 : Star.prog.funcs[2]? = some Tryd.f2 := by kernel_rfl
@[simp] theorem func20 : Star.prog.funcs[20]? = some Tryd.f20 := by kernel_rfl
@[simp] theorem func21 : Star.prog.funcs[21]? = some Tryd.f21 := by kernel_rfl
@[simp] theorem func22 : Star.prog.funcs[22]? = some Tryd.f22 := by kernel_rfl
@[simp] theorem func23 : Star.prog.funcs[23]? = some Tryd.f23 := by kernel_rfl
@[simp] theorem func24 : Star.prog.funcs[24]? = some Tryd.f24 := by kernel_rfl
@[simp] theorem func26 : Star.prog.funcs[26]? = some Tryd.f26 := by kernel_rfl
@[simp] theorem func27 : Star.prog.funcs[27]? = some Tryd.f27 := by kernel_rfl
@[simp] theorem func28 : Star.prog.funcs[28]? = some Tryd.f28 := by kernel_rfl
@[simp] theorem func29 : Star.prog.funcs[29]? = some Tryd.f29 := by kernel_rfl
@[simp] theorem func30 : Star.prog.funcs[30]? = some Tryd.f30 := by kernel_rfl
@[simp] theorem func31 : Star.prog.funcs[31]? = some Tryd.f31 := by kernel_rfl
@[simp] theorem func32 : Star.prog.funcs[32]? = some Tryd.f32 := by kernel_rfl
@[simp] theorem func33 : Star.prog.funcs[33]? = some Tryd.f33 := by kernel_rfl
@[simp] theorem func34 : Star.prog.funcs[34]? = some Tryd.f34 := by kernel_rfl
@[simp] theorem func35 : Star.prog.funcs[35]? = some Tryd.f35 := by kernel_rfl
@[simp] theorem func36 : Star.prog.funcs[36]? = some Tryd.f36 := by kernel_rfl
@[simp] theorem func37 : Star.prog.funcs[37]? = some Tryd.f37 := by kernel_rfl
@[simp] theorem func38 : Star.prog.funcs[38]? = some Tryd.f38 := by kernel_rfl
@[simp] theorem func39 : Star.prog.funcs[39]? = some Tryd.f39 := by kernel_rfl
@[simp] theorem func40 : Star.prog.funcs[40]? = some Tryd.f40 := by kernel_rfl
@[simp] theorem func41 : Star.prog.funcs[41]? = some Tryd.f41 := by kernel_rfl
@[simp] theorem func42 : Star.prog.funcs[42]? = some Tryd.f42 := by kernel_rfl
@[simp] theorem func43 : Star.prog.funcs[43]? = some Tryd.f43 := by kernel_rfl
@[simp] theorem func44 : Star.prog.funcs[44]? = some Tryd.f44 := by kernel_rfl
@[simp] theorem func45 : Star.prog.funcs[45]? = some Tryd.f45 := by kernel_rfl
@[simp] theorem func46 : Star.prog.funcs[46]? = some Tryd.f46 := by kernel_rfl
@[simp] theorem func47 : Star.prog.funcs[47]? = some Tryd.f47 := by kernel_rfl
@[simp] theorem func48 : Star.prog.funcs[48]? = some Tryd.f48 := by kernel_rfl
@[simp] theorem func49 : Star.prog.funcs[49]? = some Tryd.f49 := by kernel_rfl
@[simp] theorem func5 : Star.prog.funcs[5]? = some Tryd.f5 := by kernel_rfl
@[simp] theorem func50 : Star.prog.funcs[50]? = some Tryd.f50 := by kernel_rfl
@[simp] theorem func51 : Star.prog.funcs[51]? = some Tryd.f51 := by kernel_rfl
@[simp] theorem func52 : Star.prog.funcs[52]? = some Tryd.f52 := by kernel_rfl
@[simp] theorem func53 : Star.prog.funcs[53]? = some Tryd.f53 := by kernel_rfl
@[simp] theorem func54 : Star.prog.funcs[54]? = some Tryd.f54 := by kernel_rfl
@[simp] theorem func55 : Star.prog.funcs[55]? = some Tryd.f55 := by kernel_rfl
@[simp] theorem func56 : Star.prog.funcs[56]? = some Tryd.f56 := by kernel_rfl
@[simp] theorem func57 : Star.prog.funcs[57]? = some Tryd.f57 := by kernel_rfl
@[simp] theorem func58 : Star.prog.funcs[58]? = some Tryd.f58 := by kernel_rfl
@[simp] theorem func59 : Star.prog.funcs[59]? = some Tryd.f59 := by kernel_rfl
@[simp] theorem func60 : Star.prog.funcs[60]? = some Tryd.f60 := by kernel_rfl
@[simp] theorem func61 : Star.prog.funcs[61]? = some Tryd.f61 := by kernel_rfl
@[simp] theorem func62 : Star.prog.funcs[62]? = some Tryd.f62 := by kernel_rfl
@[simp] theorem func63 : Star.prog.funcs[63]? = some Tryd.f63 := by kernel_rfl
@[simp] theorem func64 : Star.prog.funcs[64]? = some Star.f64 := by kernel_rfl
@[simp] theorem func65 : Star.prog.funcs[65]? = some Tryd.f65 := by kernel_rfl
@[simp] theorem func66 : Star.prog.funcs[66]? = some Tryd.f66 := by kernel_rfl
@[simp] theorem func67 : Star.prog.funcs[67]? = some Tryd.f67 := by kernel_rfl
@[simp] theorem func68 : Star.prog.funcs[68]? = some Tryd.f68 := by kernel_rfl
@[simp] theorem func69 : Star.prog.funcs[69]? = some Tryd.f69 := by kernel_rfl
@[simp] theorem func7 : Star.prog.funcs[7]? = some Tryd.f7 := by kernel_rfl
@[simp] theorem func70 : Star.prog.funcs[70]? = some Tryd.f70 := by kernel_rfl
@[simp] theorem func71 : Star.prog.funcs[71]? = some Tryd.f71 := by kernel_rfl
@[simp] theorem func72 : Star.prog.funcs[72]? = some Tryd.f72 := by kernel_rfl
@[simp] theorem func73 : Star.prog.funcs[73]? = some Tryd.f73 := by kernel_rfl
@[simp] theorem func74 : Star.prog.funcs[74]? = some Tryd.f74 := by kernel_rfl
@[simp] theorem func75 : Star.prog.funcs[75]? = some Tryd.f75 := by kernel_rfl
@[simp] theorem func76 : Star.prog.funcs[76]? = some Tryd.f76 := by kernel_rfl
@[simp] theorem func77 : Star.prog.funcs[77]? = some Tryd.f77 := by kernel_rfl
@[simp] theorem func78 : Star.prog.funcs[78]? = some Tryd.f78 := by kernel_rfl
@[simp] theorem func79 : Star.prog.funcs[79]? = some Tryd.f79 := by kernel_rfl
@[simp] theorem func8 : Star.prog.funcs[8]? = some Tryd.f8 := by kernel_rfl
@[simp] theorem func80 : Star.prog.funcs[80]? = some Tryd.f80 := by kernel_rfl
@[simp] theorem func81 : Star.prog.funcs[81]? = some Tryd.f81 := by kernel_rfl
@[simp] theorem func82 : Star.prog.funcs[82]? = some Tryd.f82 := by kernel_rfl
@[simp] theorem func83 : Star.prog.funcs[83]? = some Tryd.f83 := by kernel_rfl
@[simp] theorem func84 : Star.prog.funcs[84]? = some Tryd.f84 := by kernel_rfl
@[simp] theorem func85 : Star.prog.funcs[85]? = some Tryd.f85 := by kernel_rfl
@[simp] theorem func86 : Star.prog.funcs[86]? = some Tryd.f86 := by kernel_rfl
@[simp] theorem func87 : Star.prog.funcs[87]? = some Tryd.f87 := by kernel_rfl
@[simp] theorem func88 : Star.prog.funcs[88]? = some Tryd.f88 := by kernel_rfl
@[simp] theorem func89 : Star.prog.funcs[89]? = some Tryd.f89 := by kernel_rfl
@[simp] theorem func9 : Star.prog.funcs[9]? = some Tryd.f9 := by kernel_rfl
@[simp] theorem func90 : Star.prog.funcs[90]? = some Tryd.f90 := by kernel_rfl
@[simp] theorem func91 : Star.prog.funcs[91]? = some Tryd.f91 := by kernel_rfl
@[simp] theorem func92 : Star.prog.funcs[92]? = some Tryd.f92 := by kernel_rfl
@[simp] theorem func93 : Star.prog.funcs[93]? = some Tryd.f93 := by kernel_rfl
@[simp] theorem func94 : Star.prog.funcs[94]? = some Tryd.f94 := by kernel_rfl
@[simp] theorem func95 : Star.prog.funcs[95]? = some Tryd.f95 := by kernel_rfl
@[simp] theorem func96 : Star.prog.funcs[96]? = some Tryd.f96 := by kernel_rfl
@[simp] theorem func97 : Star.prog.funcs[97]? = some Tryd.f97 := by kernel_rfl
@[simp] theorem func98 : Star.prog.funcs[98]? = some Tryd.f98 := by kernel_rfl
@[simp] theorem func99 : Star.prog.funcs[99]? = some Tryd.f99 := by kernel_rfl
@[simp] theorem globals_size : Star.prog.globals.size = 1 := by kernel_rfl
@[simp] theorem inits_eq : Star.prog.inits = #[2] := by kernel_rfl
@[simp] theorem isAgg0 : ∀ (w : World), Sem.run Star.prog (isAgg 0) w = Result.ok false w := by intro w; kernel_rfl
@[simp] theorem isAgg1 : ∀ (w : World), Sem.run Star.prog (isAgg 1) w = Result.ok false w := by intro w; kernel_rfl
@[simp] theorem isAgg10 : ∀ (w : World), Sem.run Star.prog (isAgg 10) w = Result.ok false w := by intro w; kernel_rfl
@[simp] theorem isAgg100 : ∀ (w : World), Sem.run Star.prog (isAgg 100) w = Result.ok false w := by intro w; kernel_rfl
@[simp] theorem isAgg101 : ∀ (w : World), Sem.run Star.prog (isAgg 101) w = Result.ok false w := by intro w; kernel_rfl
@[simp] theorem isAgg102 : ∀ (w : World), Sem.run Star.prog (isAgg 102) w = Result.ok false w := by intro w; kernel_rfl
@[simp] theorem isAgg103 : ∀ (w : World), Sem.run Star.prog (isAgg 103) w = Result.ok false w := by intro w; kernel_rfl
@[simp] theorem isAgg104 : ∀ (w : World), Sem.run Star.prog (isAgg 104) w = Result.ok false w := by intro w; kernel_rfl
@[simp] theorem isAgg105 : ∀ (w : World), Sem.run Star.prog (isAgg 105) w = Result.ok false w := by intro w; kernel_rfl
@[simp] theorem isAgg106 : ∀ (w : World), Sem.run Star.prog (isAgg 106) w = Result.ok false w := by intro w; kernel_rfl
@[simp] theorem isAgg107 : ∀ (w : World), Sem.run Star.prog (isAgg 107) w = Result.ok false w := by intro w; kernel_rfl
@[simp] theorem isAgg108 : ∀ (w : World), Sem.run Star.prog (isAgg 108) w = Result.ok false w := by intro w; kernel_rfl
@[simp] theorem isAgg109 : ∀ (w : World), Sem.run Star.prog (isAgg 109) w = Result.ok false w := by intro w; kernel_rfl
@[simp] theorem isAgg11 : ∀ (w : World), Sem.run Star.prog (isAgg 11) w = Result.ok false w := by intro w; kernel_rfl
@[simp] theorem isAgg110 : ∀ (w : World), Sem.run Star.prog (isAgg 110) w = Result.ok false w := by intro w; kernel_rfl
@[simp] theorem isAgg111 : ∀ (w : World), Sem.run Star.prog (isAgg 111) w = Result.ok false w := by intro w; kernel_rfl
@[simp] theorem isAgg112 : ∀ (w : World), Sem.run Star.prog (isAgg 112) w = Result.ok false w := by intro w; kernel_rfl
@[simp] theorem isAgg113 : ∀ (w : World), Sem.run Star.prog (isAgg 113) w = Result.ok false w := by intro w; kernel_rfl
@[simp] theorem isAgg114 : ∀ (w : World), Sem.run Star.prog (isAgg 114) w = Result.ok false w := by intro w; kernel_rfl
@[simp] theorem isAgg115 : ∀ (w : World), Sem.run Star.prog (isAgg 115) w = Result.ok true w := by intro w; kernel_rfl
@[simp] theorem isAgg116 : ∀ (w : World), Sem.run Star.prog (isAgg 116) w = Result.ok true w := by intro w; kernel_rfl
@[simp] theorem isAgg117 : ∀ (w : World), Sem.run Star.prog (isAgg 117) w = Result.ok false w := by intro w; kernel_rfl
@[simp] theorem isAgg118 : ∀ (w : World), Sem.run Star.prog (isAgg 118) w = Result.ok false w := by intro w; kernel_rfl
@[simp] theorem isAgg119 : ∀ (w : World), Sem.run Star.prog (isAgg 119) w = Result.ok false w := by intro w; kernel_rfl
@[simp] theorem isAgg12 : ∀ (w : World), Sem.run Star.prog (isAgg 12) w = Result.ok false w := by intro w; kernel_rfl
@[simp] theorem isAgg120 : ∀ (w : World), Sem.run Star.prog (isAgg 120) w = Result.ok false w := by intro w; kernel_rfl
@[simp] theorem isAgg121 : ∀ (w : World), Sem.run Star.prog (isAgg 121) w = Result.ok true w := by intro w; kernel_rfl
@[simp] theorem isAgg122 : ∀ (w : World), Sem.run Star.prog (isAgg 122) w = Result.ok true w := by intro w; kernel_rfl
@[simp] theorem isAgg123 : ∀ (w : World), Sem.run Star.prog (isAgg 123) w = Result.ok true w := by intro w; kernel_rfl
@[simp] theorem isAgg124 : ∀ (w : World), Sem.run Star.prog (isAgg 124) w = Result.ok true w := by intro w; kernel_rfl
@[simp] theorem isAgg125 : ∀ (w : World), Sem.run Star.prog (isAgg 125) w = Result.ok true w := by intro w; kernel_rfl
@[simp] theorem isAgg126 : ∀ (w : World), Sem.run Star.prog (isAgg 126) w = Result.ok false w := by intro w; kernel_rfl
@[simp] theorem isAgg127 : ∀ (w : World), Sem.run Star.prog (isAgg 127) w = Result.ok false w := by intro w; kernel_rfl
@[simp] theorem isAgg128 : ∀ (w : World), Sem.run Star.prog (isAgg 128) w = Result.ok false w := by intro w; kernel_rfl
@[simp] theorem isAgg129 : ∀ (w : World), Sem.run Star.prog (isAgg 129) w = Result.ok false w := by intro w; kernel_rfl
@[simp] theorem isAgg13 : ∀ (w : World), Sem.run Star.prog (isAgg 13) w = Result.ok true w := by intro w; kernel_rfl
@[simp] theorem isAgg130 : ∀ (w : World), Sem.run Star.prog (isAgg 130) w = Result.ok false w := by intro w; kernel_rfl
@[simp] theorem isAgg131 : ∀ (w : World), Sem.run Star.prog (isAgg 131) w = Result.ok false w := by intro w; kernel_rfl
@[simp] theorem isAgg132 : ∀ (w : World), Sem.run Star.prog (isAgg 132) w = Result.ok false w := by intro w; kernel_rfl
@[simp] theorem isAgg133 : ∀ (w : World), Sem.run Star.prog (isAgg 133) w = Result.ok true w := by intro w; kernel_rfl
@[simp] theorem isAgg134 : ∀ (w : World), Sem.run Star.prog (isAgg 134) w = Result.ok true w := by intro w; kernel_rfl
@[simp] theorem isAgg135 : ∀ (w : World), Sem.run Star.prog (isAgg 135) w = Result.ok false w := by intro w; kernel_rfl
@[simp] theorem isAgg14 : ∀ (w : World), Sem.run Star.prog (isAgg 14) w = Result.ok true w := by intro w; kernel_rfl
@[simp] theorem isAgg15 : ∀ (w : World), Sem.run Star.prog (isAgg 15) w = Result.ok false w := by intro w; kernel_rfl
@[simp] theorem isAgg16 : ∀ (w : World), Sem.run Star.prog (isAgg 16) w = Result.ok false w := by intro w; kernel_rfl
@[simp] theorem isAgg17 : ∀ (w : World), Sem.run Star.prog (isAgg 17) w = Result.ok false w := by intro w; kernel_rfl
@[simp] theorem isAgg18 : ∀ (w : World), Sem.run Star.prog (isAgg 18) w = Result.ok true w := by intro w; kernel_rfl
@[simp] theorem isAgg19 : ∀ (w : World), Sem.run Star.prog (isAgg 19) w = Result.ok true w := by intro w; kernel_rfl
@[simp] theorem isAgg2 : ∀ (w : World), Sem.run Star.prog (isAgg 2) w = Result.ok false w := by intro w; kernel_rfl
@[simp] theorem isAgg20 : ∀ (w : World), Sem.run Star.prog (isAgg 20) w = Result.ok false w := by intro w; kernel_rfl
@[simp] theorem isAgg21 : ∀ (w : World), Sem.run Star.prog (isAgg 21) w = Result.ok false w := by intro w; kernel_rfl
@[simp] theorem isAgg22 : ∀ (w : World), Sem.run Star.prog (isAgg 22) w = Result.ok false w := by intro w; kernel_rfl
@[simp] theorem isAgg23 : ∀ (w : World), Sem.run Star.prog (isAgg 23) w = Result.ok true w := by intro w; kernel_rfl
@[simp] theorem isAgg24 : ∀ (w : World), Sem.run Star.prog (isAgg 24) w = Result.ok true w := by intro w; kernel_rfl
@[simp] theorem isAgg25 : ∀ (w : World), Sem.run Star.prog (isAgg 25) w = Result.ok true w := by intro w; kernel_rfl
@[simp] theorem isAgg26 : ∀ (w : World), Sem.run Star.prog (isAgg 26) w = Result.ok true w := by intro w; kernel_rfl
@[simp] theorem isAgg27 : ∀ (w : World), Sem.run Star.prog (isAgg 27) w = Result.ok false w := by intro w; kernel_rfl
@[simp] theorem isAgg28 : ∀ (w : World), Sem.run Star.prog (isAgg 28) w = Result.ok false w := by intro w; kernel_rfl
@[simp] theorem isAgg29 : ∀ (w : World), Sem.run Star.prog (isAgg 29) w = Result.ok false w := by intro w; kernel_rfl
@[simp] theorem isAgg3 : ∀ (w : World), Sem.run Star.prog (isAgg 3) w = Result.ok false w := by intro w; kernel_rfl
@[simp] theorem isAgg30 : ∀ (w : World), Sem.run Star.prog (isAgg 30) w = Result.ok false w := by intro w; kernel_rfl
@[simp] theorem isAgg31 : ∀ (w : World), Sem.run Star.prog (isAgg 31) w = Result.ok false w := by intro w; kernel_rfl
@[simp] theorem isAgg32 : ∀ (w : World), Sem.run Star.prog (isAgg 32) w = Result.ok false w := by intro w; kernel_rfl
@[simp] theorem isAgg33 : ∀ (w : World), Sem.run Star.prog (isAgg 33) w = Result.ok false w := by intro w; kernel_rfl
@[simp] theorem isAgg34 : ∀ (w : World), Sem.run Star.prog (isAgg 34) w = Result.ok false w := by intro w; kernel_rfl
@[simp] theorem isAgg35 : ∀ (w : World), Sem.run Star.prog (isAgg 35) w = Result.ok false w := by intro w; kernel_rfl
@[simp] theorem isAgg36 : ∀ (w : World), Sem.run Star.prog (isAgg 36) w = Result.ok false w := by intro w; kernel_rfl
@[simp] theorem isAgg37 : ∀ (w : World), Sem.run Star.prog (isAgg 37) w = Result.ok true w := by intro w; kernel_rfl
@[simp] theorem isAgg38 : ∀ (w : World), Sem.run Star.prog (isAgg 38) w = Result.ok true w := by intro w; kernel_rfl
@[simp] theorem isAgg39 : ∀ (w : World), Sem.run Star.prog (isAgg 39) w = Result.ok false w := by intro w; kernel_rfl
@[simp] theorem isAgg4 : ∀ (w : World), Sem.run Star.prog (isAgg 4) w = Result.ok false w := by intro w; kernel_rfl
@[simp] theorem isAgg40 : ∀ (w : World), Sem.run Star.prog (isAgg 40) w = Result.ok false w := by intro w; kernel_rfl
@[simp] theorem isAgg41 : ∀ (w : World), Sem.run Star.prog (isAgg 41) w = Result.ok false w := by intro w; kernel_rfl
@[simp] theorem isAgg42 : ∀ (w : World), Sem.run Star.prog (isAgg 42) w = Result.ok false w := by intro w; kernel_rfl
@[simp] theorem isAgg43 : ∀ (w : World), Sem.run Star.prog (isAgg 43) w = Result.ok false w := by intro w; kernel_rfl
@[simp] theorem isAgg44 : ∀ (w : World), Sem.run Star.prog (isAgg 44) w = Result.ok true w := by intro w; kernel_rfl
@[simp] theorem isAgg45 : ∀ (w : World), Sem.run Star.prog (isAgg 45) w = Result.ok true w := by intro w; kernel_rfl
@[simp] theorem isAgg46 : ∀ (w : World), Sem.run Star.prog (isAgg 46) w = Result.ok false w := by intro w; kernel_rfl
@[simp] theorem isAgg47 : ∀ (w : World), Sem.run Star.prog (isAgg 47) w = Result.ok false w := by intro w; kernel_rfl
@[simp] theorem isAgg48 : ∀ (w : World), Sem.run Star.prog (isAgg 48) w = Result.ok false w := by intro w; kernel_rfl
@[simp] theorem isAgg49 : ∀ (w : World), Sem.run Star.prog (isAgg 49) w = Result.ok false w := by intro w; kernel_rfl
@[simp] theorem isAgg5 : ∀ (w : World), Sem.run Star.prog (isAgg 5) w = Result.ok false w := by intro w; kernel_rfl
@[simp] theorem isAgg50 : ∀ (w : World), Sem.run Star.prog (isAgg 50) w = Result.ok false w := by intro w; kernel_rfl
@[simp] theorem isAgg51 : ∀ (w : World), Sem.run Star.prog (isAgg 51) w = Result.ok false w := by intro w; kernel_rfl
@[simp] theorem isAgg52 : ∀ (w : World), Sem.run Star.prog (isAgg 52) w = Result.ok false w := by intro w; kernel_rfl
@[simp] theorem isAgg53 : ∀ (w : World), Sem.run Star.prog (isAgg 53) w = Result.ok false w := by intro w; kernel_rfl
@[simp] theorem isAgg54 : ∀ (w : World), Sem.run Star.prog (isAgg 54) w = Result.ok false w := by intro w; kernel_rfl
@[simp] theorem isAgg55 : ∀ (w : World), Sem.run Star.prog (isAgg 55) w = Result.ok true w := by intro w; kernel_rfl
@[simp] theorem isAgg56 : ∀ (w : World), Sem.run Star.prog (isAgg 56) w = Result.ok false w := by intro w; kernel_rfl
@[simp] theorem isAgg57 : ∀ (w : World), Sem.run Star.prog (isAgg 57) w = Result.ok false w := by intro w; kernel_rfl
@[simp] theorem isAgg58 : ∀ (w : World), Sem.run Star.prog (isAgg 58) w = Result.ok false w := by intro w; kernel_rfl
@[simp] theorem isAgg59 : ∀ (w : World), Sem.run Star.prog (isAgg 59) w = Result.ok false w := by intro w; kernel_rfl
@[simp] theorem isAgg6 : ∀ (w : World), Sem.run Star.prog (isAgg 6) w = Result.ok false w := by intro w; kernel_rfl
@[simp] theorem isAgg60 : ∀ (w : World), Sem.run Star.prog (isAgg 60) w = Result.ok false w := by intro w; kernel_rfl
@[simp] theorem isAgg61 : ∀ (w : World), Sem.run Star.prog (isAgg 61) w = Result.ok true w := by intro w; kernel_rfl
@[simp] theorem isAgg62 : ∀ (w : World), Sem.run Star.prog (isAgg 62) w = Result.ok true w := by intro w; kernel_rfl
@[simp] theorem isAgg63 : ∀ (w : World), Sem.run Star.prog (isAgg 63) w = Result.ok false w := by intro w; kernel_rfl
@[simp] theorem isAgg64 : ∀ (w : World), Sem.run Star.prog (isAgg 64) w = Result.ok false w := by intro w; kernel_rfl
@[simp] theorem isAgg65 : ∀ (w : World), Sem.run Star.prog (isAgg 65) w = Result.ok false w := by intro w; kernel_rfl
@[simp] theorem isAgg66 : ∀ (w : World), Sem.run Star.prog (isAgg 66) w = Result.ok false w := by intro w; kernel_rfl
@[simp] theorem isAgg67 : ∀ (w : World), Sem.run Star.prog (isAgg 67) w = Result.ok false w := by intro w; kernel_rfl
@[simp] theorem isAgg68 : ∀ (w : World), Sem.run Star.prog (isAgg 68) w = Result.ok false w := by intro w; kernel_rfl
@[simp] theorem isAgg69 : ∀ (w : World), Sem.run Star.prog (isAgg 69) w = Result.ok false w := by intro w; kernel_rfl
@[simp] theorem isAgg7 : ∀ (w : World), Sem.run Star.prog (isAgg 7) w = Result.ok true w := by intro w; kernel_rfl
@[simp] theorem isAgg70 : ∀ (w : World), Sem.run Star.prog (isAgg 70) w = Result.ok false w := by intro w; kernel_rfl
@[simp] theorem isAgg71 : ∀ (w : World), Sem.run Star.prog (isAgg 71) w = Result.ok false w := by intro w; kernel_rfl
@[simp] theorem isAgg72 : ∀ (w : World), Sem.run Star.prog (isAgg 72) w = Result.ok false w := by intro w; kernel_rfl
@[simp] theorem isAgg73 : ∀ (w : World), Sem.run Star.prog (isAgg 73) w = Result.ok false w := by intro w; kernel_rfl
@[simp] theorem isAgg74 : ∀ (w : World), Sem.run Star.prog (isAgg 74) w = Result.ok false w := by intro w; kernel_rfl
@[simp] theorem isAgg75 : ∀ (w : World), Sem.run Star.prog (isAgg 75) w = Result.ok false w := by intro w; kernel_rfl
@[simp] theorem isAgg76 : ∀ (w : World), Sem.run Star.prog (isAgg 76) w = Result.ok false w := by intro w; kernel_rfl
@[simp] theorem isAgg77 : ∀ (w : World), Sem.run Star.prog (isAgg 77) w = Result.ok true w := by intro w; kernel_rfl
@[simp] theorem isAgg78 : ∀ (w : World), Sem.run Star.prog (isAgg 78) w = Result.ok false w := by intro w; kernel_rfl
@[simp] theorem isAgg79 : ∀ (w : World), Sem.run Star.prog (isAgg 79) w = Result.ok false w := by intro w; kernel_rfl
@[simp] theorem isAgg8 : ∀ (w : World), Sem.run Star.prog (isAgg 8) w = Result.ok true w := by intro w; kernel_rfl
@[simp] theorem isAgg80 : ∀ (w : World), Sem.run Star.prog (isAgg 80) w = Result.ok false w := by intro w; kernel_rfl
@[simp] theorem isAgg81 : ∀ (w : World), Sem.run Star.prog (isAgg 81) w = Result.ok false w := by intro w; kernel_rfl
@[simp] theorem isAgg82 : ∀ (w : World), Sem.run Star.prog (isAgg 82) w = Result.ok false w := by intro w; kernel_rfl
@[simp] theorem isAgg83 : ∀ (w : World), Sem.run Star.prog (isAgg 83) w = Result.ok false w := by intro w; kernel_rfl
@[simp] theorem isAgg84 : ∀ (w : World), Sem.run Star.prog (isAgg 84) w = Result.ok false w := by intro w; kernel_rfl
@[simp] theorem isAgg85 : ∀ (w : World), Sem.run Star.prog (isAgg 85) w = Result.ok false w := by intro w; kernel_rfl
@[simp] theorem isAgg86 : ∀ (w : World), Sem.run Star.prog (isAgg 86) w = Result.ok false w := by intro w; kernel_rfl
@[simp] theorem isAgg87 : ∀ (w : World), Sem.run Star.prog (isAgg 87) w = Result.ok false w := by intro w; kernel_rfl
@[simp] theorem isAgg88 : ∀ (w : World), Sem.run Star.prog (isAgg 88) w = Result.ok false w := by intro w; kernel_rfl
@[simp] theorem isAgg89 : ∀ (w : World), Sem.run Star.prog (isAgg 89) w = Result.ok true w := by intro w; kernel_rfl
@[simp] theorem isAgg9 : ∀ (w : World), Sem.run Star.prog (isAgg 9) w = Result.ok false w := by intro w; kernel_rfl
@[simp] theorem isAgg90 : ∀ (w : World), Sem.run Star.prog (isAgg 90) w = Result.ok false w := by intro w; kernel_rfl
@[simp] theorem isAgg91 : ∀ (w : World), Sem.run Star.prog (isAgg 91) w = Result.ok false w := by intro w; kernel_rfl
@[simp] theorem isAgg92 : ∀ (w : World), Sem.run Star.prog (isAgg 92) w = Result.ok false w := by intro w; kernel_rfl
@[simp] theorem isAgg93 : ∀ (w : World), Sem.run Star.prog (isAgg 93) w = Result.ok false w := by intro w; kernel_rfl
@[simp] theorem isAgg94 : ∀ (w : World), Sem.run Star.prog (isAgg 94) w = Result.ok false w := by intro w; kernel_rfl
@[simp] theorem isAgg95 : ∀ (w : World), Sem.run Star.prog (isAgg 95) w = Result.ok true w := by intro w; kernel_rfl
@[simp] theorem isAgg96 : ∀ (w : World), Sem.run Star.prog (isAgg 96) w = Result.ok false w := by intro w; kernel_rfl
@[simp] theorem isAgg97 : ∀ (w : World), Sem.run Star.prog (isAgg 97) w = Result.ok false w := by intro w; kernel_rfl
@[simp] theorem isAgg98 : ∀ (w : World), Sem.run Star.prog (isAgg 98) w = Result.ok true w := by intro w; kernel_rfl
@[simp] theorem isAgg99 : ∀ (w : World), Sem.run Star.prog (isAgg 99) w = Result.ok false w := by intro w; kernel_rfl
@[simp] theorem main_eq : Star.prog.main = 0 := by kernel_rfl
@[simp] theorem rt_eq : Star.prog.rt = { boundsError := 8, errorString := 10, plainError := 11, errorAddressString := 14, typeAssertionError := 15, panicNilError := 16, unhashableTypeError := 19, string := 9, any := 20, int := 3, bool := 4, rune := 21, byte := 5 } := by kernel_rfl
@[simp] theorem runUnderlying0 : ∀ (w : World), Sem.run Star.prog (underlying 0) w = Result.ok (TypeDesc.tuple #[]) w := by intro w; kernel_rfl
@[simp] theorem runUnderlying1 : ∀ (w : World), Sem.run Star.prog (underlying 1) w = Result.ok (TypeDesc.func #[] #[] false) w := by intro w; kernel_rfl
@[simp] theorem runUnderlying10 : ∀ (w : World), Sem.run Star.prog (underlying 10) w = Result.ok TypeDesc.string w := by intro w; kernel_rfl
@[simp] theorem runUnderlying100 : ∀ (w : World), Sem.run Star.prog (underlying 100) w = Result.ok (TypeDesc.func #[109] #[] false) w := by intro w; kernel_rfl
@[simp] theorem runUnderlying101 : ∀ (w : World), Sem.run Star.prog (underlying 101) w = Result.ok (TypeDesc.func #[109] #[] false) w := by intro w; kernel_rfl
@[simp] theorem runUnderlying102 : ∀ (w : World), Sem.run Star.prog (underlying 102) w = Result.ok (TypeDesc.func #[36, 3] #[101] false) w := by intro w; kernel_rfl
@[simp] theorem runUnderlying103 : ∀ (w : World), Sem.run Star.prog (underlying 103) w = Result.ok (TypeDesc.func #[] #[3] false) w := by intro w; kernel_rfl
@[simp] theorem runUnderlying104 : ∀ (w : World), Sem.run Star.prog (underlying 104) w = Result.ok (TypeDesc.func #[36, 105] #[84] false) w := by intro w; kernel_rfl
@[simp] theorem runUnderlying105 : ∀ (w : World), Sem.run Star.prog (underlying 105) w = Result.ok (TypeDesc.func #[36] #[22] false) w := by intro w; kernel_rfl
@[simp] theorem runUnderlying106 : ∀ (w : World), Sem.run Star.prog (underlying 106) w = Result.ok (TypeDesc.func #[3] #[3] false) w := by intro w; kernel_rfl
@[simp] theorem runUnderlying107 : ∀ (w : World), Sem.run Star.prog (underlying 107) w = Result.ok (TypeDesc.func #[3, 3] #[3] false) w := by intro w; kernel_rfl
@[simp] theorem runUnderlying108 : ∀ (w : World), Sem.run Star.prog (underlying 108) w = Result.ok (TypeDesc.int IntKind.u64) w := by intro w; kernel_rfl
@[simp] theorem runUnderlying109 : ∀ (w : World), Sem.run Star.prog (underlying 109) w = Result.ok (TypeDesc.func #[36] #[4] false) w := by intro w; kernel_rfl
@[simp] theorem runUnderlying11 : ∀ (w : World), Sem.run Star.prog (underlying 11) w = Result.ok TypeDesc.string w := by intro w; kernel_rfl
@[simp] theorem runUnderlying110 : ∀ (w : World), Sem.run Star.prog (underlying 110) w = Result.ok (TypeDesc.func #[22] #[3] false) w := by intro w; kernel_rfl
@[simp] theorem runUnderlying111 : ∀ (w : World), Sem.run Star.prog (underlying 111) w = Result.ok (TypeDesc.func #[114] #[] false) w := by intro w; kernel_rfl
@[simp] theorem runUnderlying112 : ∀ (w : World), Sem.run Star.prog (underlying 112) w = Result.ok (TypeDesc.func #[114] #[] false) w := by intro w; kernel_rfl
@[simp] theorem runUnderlying113 : ∀ (w : World), Sem.run Star.prog (underlying 113) w = Result.ok (TypeDesc.func #[36] #[112] false) w := by intro w; kernel_rfl
@[simp] theorem runUnderlying114 : ∀ (w : World), Sem.run Star.prog (underlying 114) w = Result.ok (TypeDesc.func #[3, 5] #[4] false) w := by intro w; kernel_rfl
@[simp] theorem runUnderlying115 : ∀ (w : World), Sem.run Star.prog (underlying 115) w = Result.ok (TypeDesc.array 5 3) w := by intro w; kernel_rfl
@[simp] theorem runUnderlying116 : ∀ (w : World), Sem.run Star.prog (underlying 116) w = Result.ok (TypeDesc.array 5 115) w := by intro w; kernel_rfl
@[simp] theorem runUnderlying117 : ∀ (w : World), Sem.run Star.prog (underlying 117) w = Result.ok (TypeDesc.func #[98] #[98] false) w := by intro w; kernel_rfl
@[simp] theorem runUnderlying118 : ∀ (w : World), Sem.run Star.prog (underlying 118) w = Result.ok (TypeDesc.func #[24] #[98] false) w := by intro w; kernel_rfl
@[simp] theorem runUnderlying119 : ∀ (w : World), Sem.run Star.prog (underlying 119) w = Result.ok (TypeDesc.func #[22] #[22] false) w := by intro w; kernel_rfl
@[simp] theorem runUnderlying12 : ∀ (w : World), Sem.run Star.prog (underlying 12) w = Result.ok (TypeDesc.int IntKind.u64) w := by intro w; kernel_rfl
@[simp] theorem runUnderlying120 : ∀ (w : World), Sem.run Star.prog (underlying 120) w = Result.ok (TypeDesc.func #[] #[9] false) w := by intro w; kernel_rfl
@[simp] theorem runUnderlying121 : ∀ (w : World), Sem.run Star.prog (underlying 121) w = Result.ok (TypeDesc.struct #[{ name := "_interface", type := 17, offset := 0, embedded := false, tag := "", pkgPath := "runtime", byteOffset := 0 }, { name := "concrete", type := 17, offset := 1, embedded := false, tag := "", pkgPath := "runtime", byteOffset := 8 }, { name := "asserted", type := 17, offset := 2, embedded := false, tag := "", pkgPath := "runtime", byteOffset := 16 }, { name := "missingMethod", type := 9, offset := 3, embedded := false, tag := "", pkgPath := "runtime", byteOffset := 24 }]) w := by intro w; kernel_rfl
@[simp] theorem runUnderlying122 : ∀ (w : World), Sem.run Star.prog (underlying 122) w = Result.ok (TypeDesc.struct #[{ name := "_interface", type := 17, offset := 0, embedded := false, tag := "", pkgPath := "runtime", byteOffset := 0 }, { name := "concrete", type := 17, offset := 1, embedded := false, tag := "", pkgPath := "runtime", byteOffset := 8 }, { name := "asserted", type := 17, offset := 2, embedded := false, tag := "", pkgPath := "runtime", byteOffset := 16 }, { name := "missingMethod", type := 9, offset := 3, embedded := false, tag := "", pkgPath := "runtime", byteOffset := 24 }]) w := by intro w; kernel_rfl
@[simp] theorem runUnderlying123 : ∀ (w : World), Sem.run Star.prog (underlying 123) w = Result.ok (TypeDesc.array 0 16) w := by intro w; kernel_rfl
@[simp] theorem runUnderlying124 : ∀ (w : World), Sem.run Star.prog (underlying 124) w = Result.ok (TypeDesc.struct #[{ name := "_", type := 123, offset := 0, embedded := false, tag := "", pkgPath := "runtime", byteOffset := 0 }]) w := by intro w; kernel_rfl
@[simp] theorem runUnderlying125 : ∀ (w : World), Sem.run Star.prog (underlying 125) w = Result.ok (TypeDesc.struct #[{ name := "_", type := 123, offset := 0, embedded := false, tag := "", pkgPath := "runtime", byteOffset := 0 }]) w := by intro w; kernel_rfl
@[simp] theorem runUnderlying126 : ∀ (w : World), Sem.run Star.prog (underlying 126) w = Result.ok (TypeDesc.int IntKind.u32) w := by intro w; kernel_rfl
@[simp] theorem runUnderlying127 : ∀ (w : World), Sem.run Star.prog (underlying 127) w = Result.ok (TypeDesc.int IntKind.u8) w := by intro w; kernel_rfl
@[simp] theorem runUnderlying128 : ∀ (w : World), Sem.run Star.prog (underlying 128) w = Result.ok (TypeDesc.int IntKind.u8) w := by intro w; kernel_rfl
@[simp] theorem runUnderlying129 : ∀ (w : World), Sem.run Star.prog (underlying 129) w = Result.ok (TypeDesc.func #[135, 135] #[4] false) w := by intro w; kernel_rfl
@[simp] theorem runUnderlying13 : ∀ (w : World), Sem.run Star.prog (underlying 13) w = Result.ok (TypeDesc.struct #[{ name := "msg", type := 9, offset := 0, embedded := false, tag := "", pkgPath := "runtime", byteOffset := 0 }, { name := "addr", type := 12, offset := 1, embedded := false, tag := "", pkgPath := "runtime", byteOffset := 16 }]) w := by intro w; kernel_rfl
@[simp] theorem runUnderlying130 : ∀ (w : World), Sem.run Star.prog (underlying 130) w = Result.ok (TypeDesc.pointer 5) w := by intro w; kernel_rfl
@[simp] theorem runUnderlying131 : ∀ (w : World), Sem.run Star.prog (underlying 131) w = Result.ok (TypeDesc.int IntKind.i32) w := by intro w; kernel_rfl
@[simp] theorem runUnderlying132 : ∀ (w : World), Sem.run Star.prog (underlying 132) w = Result.ok (TypeDesc.int IntKind.i32) w := by intro w; kernel_rfl
@[simp] theorem runUnderlying133 : ∀ (w : World), Sem.run Star.prog (underlying 133) w = Result.ok (TypeDesc.struct #[{ name := "Size_", type := 12, offset := 0, embedded := false, tag := "", pkgPath := "", byteOffset := 0 }, { name := "PtrBytes", type := 12, offset := 1, embedded := false, tag := "", pkgPath := "", byteOffset := 8 }, { name := "Hash", type := 126, offset := 2, embedded := false, tag := "", pkgPath := "", byteOffset := 16 }, { name := "TFlag", type := 127, offset := 3, embedded := false, tag := "", pkgPath := "", byteOffset := 20 }, { name := "Align_", type := 5, offset := 4, embedded := false, tag := "", pkgPath := "", byteOffset := 21 }, { name := "FieldAlign_", type := 5, offset := 5, embedded := false, tag := "", pkgPath := "", byteOffset := 22 }, { name := "Kind_", type := 128, offset := 6, embedded := false, tag := "", pkgPath := "", byteOffset := 23 }, { name := "Equal", type := 129, offset := 7, embedded := false, tag := "", pkgPath := "", byteOffset := 24 }, { name := "GCData", type := 130, offset := 8, embedded := false, tag := "", pkgPath := "", byteOffset := 32 }, { name := "Str", type := 131, offset := 9, embedded := false, tag := "", pkgPath := "", byteOffset := 40 }, { name := "PtrToThis", type := 132, offset := 10, embedded := false, tag := "", pkgPath := "", byteOffset := 44 }]) w := by intro w; kernel_rfl
@[simp] theorem runUnderlying134 : ∀ (w : World), Sem.run Star.prog (underlying 134) w = Result.ok (TypeDesc.struct #[{ name := "Size_", type := 12, offset := 0, embedded := false, tag := "", pkgPath := "", byteOffset := 0 }, { name := "PtrBytes", type := 12, offset := 1, embedded := false, tag := "", pkgPath := "", byteOffset := 8 }, { name := "Hash", type := 126, offset := 2, embedded := false, tag := "", pkgPath := "", byteOffset := 16 }, { name := "TFlag", type := 127, offset := 3, embedded := false, tag := "", pkgPath := "", byteOffset := 20 }, { name := "Align_", type := 5, offset := 4, embedded := false, tag := "", pkgPath := "", byteOffset := 21 }, { name := "FieldAlign_", type := 5, offset := 5, embedded := false, tag := "", pkgPath := "", byteOffset := 22 }, { name := "Kind_", type := 128, offset := 6, embedded := false, tag := "", pkgPath := "", byteOffset := 23 }, { name := "Equal", type := 129, offset := 7, embedded := false, tag := "", pkgPath := "", byteOffset := 24 }, { name := "GCData", type := 130, offset := 8, embedded := false, tag := "", pkgPath := "", byteOffset := 32 }, { name := "Str", type := 131, offset := 9, embedded := false, tag := "", pkgPath := "", byteOffset := 40 }, { name := "PtrToThis", type := 132, offset := 10, embedded := false, tag := "", pkgPath := "", byteOffset := 44 }]) w := by intro w; kernel_rfl
@[simp] theorem runUnderlying135 : ∀ (w : World), Sem.run Star.prog (underlying 135) w = Result.ok TypeDesc.unsafePointer w := by intro w; kernel_rfl
@[simp] theorem runUnderlying14 : ∀ (w : World), Sem.run Star.prog (underlying 14) w = Result.ok (TypeDesc.struct #[{ name := "msg", type := 9, offset := 0, embedded := false, tag := "", pkgPath := "runtime", byteOffset := 0 }, { name := "addr", type := 12, offset := 1, embedded := false, tag := "", pkgPath := "runtime", byteOffset := 16 }]) w := by intro w; kernel_rfl
@[simp] theorem runUnderlying15 : ∀ (w : World), Sem.run Star.prog (underlying 15) w = Result.ok (TypeDesc.pointer 122) w := by intro w; kernel_rfl
@[simp] theorem runUnderlying16 : ∀ (w : World), Sem.run Star.prog (underlying 16) w = Result.ok (TypeDesc.pointer 125) w := by intro w; kernel_rfl
@[simp] theorem runUnderlying17 : ∀ (w : World), Sem.run Star.prog (underlying 17) w = Result.ok (TypeDesc.pointer 134) w := by intro w; kernel_rfl
@[simp] theorem runUnderlying18 : ∀ (w : World), Sem.run Star.prog (underlying 18) w = Result.ok (TypeDesc.struct #[{ name := "typ", type := 17, offset := 0, embedded := false, tag := "", pkgPath := "internal/runtime/maps", byteOffset := 0 }]) w := by intro w; kernel_rfl
@[simp] theorem runUnderlying19 : ∀ (w : World), Sem.run Star.prog (underlying 19) w = Result.ok (TypeDesc.struct #[{ name := "typ", type := 17, offset := 0, embedded := false, tag := "", pkgPath := "internal/runtime/maps", byteOffset := 0 }]) w := by intro w; kernel_rfl
@[simp] theorem runUnderlying2 : ∀ (w : World), Sem.run Star.prog (underlying 2) w = Result.ok (TypeDesc.int IntKind.i64) w := by intro w; kernel_rfl
@[simp] theorem runUnderlying20 : ∀ (w : World), Sem.run Star.prog (underlying 20) w = Result.ok (TypeDesc.interface #[]) w := by intro w; kernel_rfl
@[simp] theorem runUnderlying21 : ∀ (w : World), Sem.run Star.prog (underlying 21) w = Result.ok (TypeDesc.int IntKind.i32) w := by intro w; kernel_rfl
@[simp] theorem runUnderlying22 : ∀ (w : World), Sem.run Star.prog (underlying 22) w = Result.ok (TypeDesc.int IntKind.u64) w := by intro w; kernel_rfl
@[simp] theorem runUnderlying23 : ∀ (w : World), Sem.run Star.prog (underlying 23) w = Result.ok (TypeDesc.array 25 22) w := by intro w; kernel_rfl
@[simp] theorem runUnderlying24 : ∀ (w : World), Sem.run Star.prog (underlying 24) w = Result.ok (TypeDesc.array 25 22) w := by intro w; kernel_rfl
@[simp] theorem runUnderlying25 : ∀ (w : World), Sem.run Star.prog (underlying 25) w = Result.ok (TypeDesc.struct #[{ name := "Rate", type := 3, offset := 0, embedded := false, tag := "", pkgPath := "", byteOffset := 0 }, { name := "Suffix", type := 3, offset := 1, embedded := false, tag := "", pkgPath := "", byteOffset := 8 }, { name := "A", type := 24, offset := 2, embedded := false, tag := "", pkgPath := "", byteOffset := 16 }, { name := "At", type := 3, offset := 27, embedded := false, tag := "", pkgPath := "", byteOffset := 216 }, { name := "Reading", type := 4, offset := 28, embedded := false, tag := "", pkgPath := "", byteOffset := 224 }]) w := by intro w; kernel_rfl
@[simp] theorem runUnderlying26 : ∀ (w : World), Sem.run Star.prog (underlying 26) w = Result.ok (TypeDesc.struct #[{ name := "Rate", type := 3, offset := 0, embedded := false, tag := "", pkgPath := "", byteOffset := 0 }, { name := "Suffix", type := 3, offset := 1, embedded := false, tag := "", pkgPath := "", byteOffset := 8 }, { name := "A", type := 24, offset := 2, embedded := false, tag := "", pkgPath := "", byteOffset := 16 }, { name := "At", type := 3, offset := 27, embedded := false, tag := "", pkgPath := "", byteOffset := 216 }, { name := "Reading", type := 4, offset := 28, embedded := false, tag := "", pkgPath := "", byteOffset := 224 }]) w := by intro w; kernel_rfl
@[simp] theorem runUnderlying27 : ∀ (w : World), Sem.run Star.prog (underlying 27) w = Result.ok (TypeDesc.slice 38) w := by intro w; kernel_rfl
@[simp] theorem runUnderlying28 : ∀ (w : World), Sem.run Star.prog (underlying 28) w = Result.ok (TypeDesc.func #[] #[4] false) w := by intro w; kernel_rfl
@[simp] theorem runUnderlying29 : ∀ (w : World), Sem.run Star.prog (underlying 29) w = Result.ok (TypeDesc.func #[27] #[4] false) w := by intro w; kernel_rfl
@[simp] theorem runUnderlying3 : ∀ (w : World), Sem.run Star.prog (underlying 3) w = Result.ok (TypeDesc.int IntKind.i64) w := by intro w; kernel_rfl
@[simp] theorem runUnderlying30 : ∀ (w : World), Sem.run Star.prog (underlying 30) w = Result.ok (TypeDesc.pointer 62) w := by intro w; kernel_rfl
@[simp] theorem runUnderlying31 : ∀ (w : World), Sem.run Star.prog (underlying 31) w = Result.ok (TypeDesc.int IntKind.i64) w := by intro w; kernel_rfl
@[simp] theorem runUnderlying32 : ∀ (w : World), Sem.run Star.prog (underlying 32) w = Result.ok (TypeDesc.tuple #[30, 31]) w := by intro w; kernel_rfl
@[simp] theorem runUnderlying33 : ∀ (w : World), Sem.run Star.prog (underlying 33) w = Result.ok (TypeDesc.func #[3, 3, 24, 3, 4] #[30, 31] false) w := by intro w; kernel_rfl
@[simp] theorem runUnderlying34 : ∀ (w : World), Sem.run Star.prog (underlying 34) w = Result.ok (TypeDesc.func #[26] #[4] false) w := by intro w; kernel_rfl
@[simp] theorem runUnderlying35 : ∀ (w : World), Sem.run Star.prog (underlying 35) w = Result.ok (TypeDesc.func #[30, 26] #[4] false) w := by intro w; kernel_rfl
@[simp] theorem runUnderlying36 : ∀ (w : World), Sem.run Star.prog (underlying 36) w = Result.ok (TypeDesc.slice 5) w := by intro w; kernel_rfl
@[simp] theorem runUnderlying37 : ∀ (w : World), Sem.run Star.prog (underlying 37) w = Result.ok (TypeDesc.struct #[{ name := "Kind", type := 5, offset := 0, embedded := false, tag := "", pkgPath := "", byteOffset := 0 }, { name := "B", type := 36, offset := 1, embedded := false, tag := "", pkgPath := "", byteOffset := 8 }, { name := "N", type := 3, offset := 2, embedded := false, tag := "", pkgPath := "", byteOffset := 32 }]) w := by intro w; kernel_rfl
@[simp] theorem runUnderlying38 : ∀ (w : World), Sem.run Star.prog (underlying 38) w = Result.ok (TypeDesc.struct #[{ name := "Kind", type := 5, offset := 0, embedded := false, tag := "", pkgPath := "", byteOffset := 0 }, { name := "B", type := 36, offset := 1, embedded := false, tag := "", pkgPath := "", byteOffset := 8 }, { name := "N", type := 3, offset := 2, embedded := false, tag := "", pkgPath := "", byteOffset := 32 }]) w := by intro w; kernel_rfl
@[simp] theorem runUnderlying39 : ∀ (w : World), Sem.run Star.prog (underlying 39) w = Result.ok (TypeDesc.tuple #[3, 31]) w := by intro w; kernel_rfl
@[simp] theorem runUnderlying4 : ∀ (w : World), Sem.run Star.prog (underlying 4) w = Result.ok TypeDesc.bool w := by intro w; kernel_rfl
@[simp] theorem runUnderlying40 : ∀ (w : World), Sem.run Star.prog (underlying 40) w = Result.ok (TypeDesc.func #[36] #[3, 31] false) w := by intro w; kernel_rfl
@[simp] theorem runUnderlying41 : ∀ (w : World), Sem.run Star.prog (underlying 41) w = Result.ok (TypeDesc.func #[26, 36] #[26] false) w := by intro w; kernel_rfl
@[simp] theorem runUnderlying42 : ∀ (w : World), Sem.run Star.prog (underlying 42) w = Result.ok (TypeDesc.tuple #[36, 31]) w := by intro w; kernel_rfl
@[simp] theorem runUnderlying43 : ∀ (w : World), Sem.run Star.prog (underlying 43) w = Result.ok (TypeDesc.func #[3] #[36, 31] false) w := by intro w; kernel_rfl
@[simp] theorem runUnderlying44 : ∀ (w : World), Sem.run Star.prog (underlying 44) w = Result.ok (TypeDesc.struct #[{ name := "S", type := 26, offset := 0, embedded := false, tag := "", pkgPath := "", byteOffset := 0 }, { name := "B", type := 36, offset := 29, embedded := false, tag := "", pkgPath := "", byteOffset := 232 }]) w := by intro w; kernel_rfl
@[simp] theorem runUnderlying45 : ∀ (w : World), Sem.run Star.prog (underlying 45) w = Result.ok (TypeDesc.struct #[{ name := "S", type := 26, offset := 0, embedded := false, tag := "", pkgPath := "", byteOffset := 0 }, { name := "B", type := 36, offset := 29, embedded := false, tag := "", pkgPath := "", byteOffset := 232 }]) w := by intro w; kernel_rfl
@[simp] theorem runUnderlying46 : ∀ (w : World), Sem.run Star.prog (underlying 46) w = Result.ok (TypeDesc.func #[26, 3] #[45] false) w := by intro w; kernel_rfl
@[simp] theorem runUnderlying47 : ∀ (w : World), Sem.run Star.prog (underlying 47) w = Result.ok (TypeDesc.func #[36, 36] #[4] false) w := by intro w; kernel_rfl
@[simp] theorem runUnderlying48 : ∀ (w : World), Sem.run Star.prog (underlying 48) w = Result.ok (TypeDesc.func #[] #[30] false) w := by intro w; kernel_rfl
@[simp] theorem runUnderlying49 : ∀ (w : World), Sem.run Star.prog (underlying 49) w = Result.ok (TypeDesc.func #[26, 27] #[4] false) w := by intro w; kernel_rfl
@[simp] theorem runUnderlying5 : ∀ (w : World), Sem.run Star.prog (underlying 5) w = Result.ok (TypeDesc.int IntKind.u8) w := by intro w; kernel_rfl
@[simp] theorem runUnderlying50 : ∀ (w : World), Sem.run Star.prog (underlying 50) w = Result.ok (TypeDesc.slice 3) w := by intro w; kernel_rfl
@[simp] theorem runUnderlying51 : ∀ (w : World), Sem.run Star.prog (underlying 51) w = Result.ok (TypeDesc.func #[3, 3] #[30, 31] false) w := by intro w; kernel_rfl
@[simp] theorem runUnderlying52 : ∀ (w : World), Sem.run Star.prog (underlying 52) w = Result.ok (TypeDesc.func #[3, 3, 36, 3] #[36] false) w := by intro w; kernel_rfl
@[simp] theorem runUnderlying53 : ∀ (w : World), Sem.run Star.prog (underlying 53) w = Result.ok (TypeDesc.func #[5, 36, 36] #[4] false) w := by intro w; kernel_rfl
@[simp] theorem runUnderlying54 : ∀ (w : World), Sem.run Star.prog (underlying 54) w = Result.ok (TypeDesc.func #[3, 3] #[4] false) w := by intro w; kernel_rfl
@[simp] theorem runUnderlying55 : ∀ (w : World), Sem.run Star.prog (underlying 55) w = Result.ok (TypeDesc.array 2 5) w := by intro w; kernel_rfl
@[simp] theorem runUnderlying56 : ∀ (w : World), Sem.run Star.prog (underlying 56) w = Result.ok (TypeDesc.tuple #[24, 3, 4]) w := by intro w; kernel_rfl
@[simp] theorem runUnderlying57 : ∀ (w : World), Sem.run Star.prog (underlying 57) w = Result.ok (TypeDesc.func #[] #[24, 3, 4] false) w := by intro w; kernel_rfl
@[simp] theorem runUnderlying58 : ∀ (w : World), Sem.run Star.prog (underlying 58) w = Result.ok (TypeDesc.func #[26, 36, 55] #[4] false) w := by intro w; kernel_rfl
@[simp] theorem runUnderlying59 : ∀ (w : World), Sem.run Star.prog (underlying 59) w = Result.ok (TypeDesc.func #[3] #[4] false) w := by intro w; kernel_rfl
@[simp] theorem runUnderlying6 : ∀ (w : World), Sem.run Star.prog (underlying 6) w = Result.ok (TypeDesc.int IntKind.u8) w := by intro w; kernel_rfl
@[simp] theorem runUnderlying60 : ∀ (w : World), Sem.run Star.prog (underlying 60) w = Result.ok (TypeDesc.func #[3, 3, 4] #[4] false) w := by intro w; kernel_rfl
@[simp] theorem runUnderlying61 : ∀ (w : World), Sem.run Star.prog (underlying 61) w = Result.ok (TypeDesc.struct #[{ name := "rate", type := 3, offset := 0, embedded := false, tag := "", pkgPath := "cribble/sponge", byteOffset := 0 }, { name := "suffix", type := 5, offset := 1, embedded := false, tag := "", pkgPath := "cribble/sponge", byteOffset := 8 }, { name := "a", type := 24, offset := 2, embedded := false, tag := "", pkgPath := "cribble/sponge", byteOffset := 16 }, { name := "at", type := 3, offset := 27, embedded := false, tag := "", pkgPath := "cribble/sponge", byteOffset := 216 }, { name := "reading", type := 4, offset := 28, embedded := false, tag := "", pkgPath := "cribble/sponge", byteOffset := 224 }]) w := by intro w; kernel_rfl
@[simp] theorem runUnderlying62 : ∀ (w : World), Sem.run Star.prog (underlying 62) w = Result.ok (TypeDesc.struct #[{ name := "rate", type := 3, offset := 0, embedded := false, tag := "", pkgPath := "cribble/sponge", byteOffset := 0 }, { name := "suffix", type := 5, offset := 1, embedded := false, tag := "", pkgPath := "cribble/sponge", byteOffset := 8 }, { name := "a", type := 24, offset := 2, embedded := false, tag := "", pkgPath := "cribble/sponge", byteOffset := 16 }, { name := "at", type := 3, offset := 27, embedded := false, tag := "", pkgPath := "cribble/sponge", byteOffset := 216 }, { name := "reading", type := 4, offset := 28, embedded := false, tag := "", pkgPath := "cribble/sponge", byteOffset := 224 }]) w := by intro w; kernel_rfl
@[simp] theorem runUnderlying63 : ∀ (w : World), Sem.run Star.prog (underlying 63) w = Result.ok (TypeDesc.chan ChanDir.both 36) w := by intro w; kernel_rfl
@[simp] theorem runUnderlying64 : ∀ (w : World), Sem.run Star.prog (underlying 64) w = Result.ok (TypeDesc.chan ChanDir.both 77) w := by intro w; kernel_rfl
@[simp] theorem runUnderlying65 : ∀ (w : World), Sem.run Star.prog (underlying 65) w = Result.ok (TypeDesc.func #[36, 3, 3, 72, 73] #[] false) w := by intro w; kernel_rfl
@[simp] theorem runUnderlying66 : ∀ (w : World), Sem.run Star.prog (underlying 66) w = Result.ok (TypeDesc.func #[74, 75] #[] false) w := by intro w; kernel_rfl
@[simp] theorem runUnderlying67 : ∀ (w : World), Sem.run Star.prog (underlying 67) w = Result.ok (TypeDesc.func #[24, 3, 36] #[24] false) w := by intro w; kernel_rfl
@[simp] theorem runUnderlying68 : ∀ (w : World), Sem.run Star.prog (underlying 68) w = Result.ok (TypeDesc.func #[24] #[24] false) w := by intro w; kernel_rfl
@[simp] theorem runUnderlying69 : ∀ (w : World), Sem.run Star.prog (underlying 69) w = Result.ok (TypeDesc.func #[3] #[36] false) w := by intro w; kernel_rfl
@[simp] theorem runUnderlying7 : ∀ (w : World), Sem.run Star.prog (underlying 7) w = Result.ok (TypeDesc.struct #[{ name := "x", type := 2, offset := 0, embedded := false, tag := "", pkgPath := "runtime", byteOffset := 0 }, { name := "y", type := 3, offset := 1, embedded := false, tag := "", pkgPath := "runtime", byteOffset := 8 }, { name := "signed", type := 4, offset := 2, embedded := false, tag := "", pkgPath := "runtime", byteOffset := 16 }, { name := "code", type := 6, offset := 3, embedded := false, tag := "", pkgPath := "runtime", byteOffset := 17 }]) w := by intro w; kernel_rfl
@[simp] theorem runUnderlying70 : ∀ (w : World), Sem.run Star.prog (underlying 70) w = Result.ok (TypeDesc.func #[24, 3, 3] #[36] false) w := by intro w; kernel_rfl
@[simp] theorem runUnderlying71 : ∀ (w : World), Sem.run Star.prog (underlying 71) w = Result.ok (TypeDesc.func #[50, 3] #[4] false) w := by intro w; kernel_rfl
@[simp] theorem runUnderlying72 : ∀ (w : World), Sem.run Star.prog (underlying 72) w = Result.ok (TypeDesc.chan ChanDir.send 36) w := by intro w; kernel_rfl
@[simp] theorem runUnderlying73 : ∀ (w : World), Sem.run Star.prog (underlying 73) w = Result.ok (TypeDesc.chan ChanDir.send 77) w := by intro w; kernel_rfl
@[simp] theorem runUnderlying74 : ∀ (w : World), Sem.run Star.prog (underlying 74) w = Result.ok (TypeDesc.chan ChanDir.recv 36) w := by intro w; kernel_rfl
@[simp] theorem runUnderlying75 : ∀ (w : World), Sem.run Star.prog (underlying 75) w = Result.ok (TypeDesc.chan ChanDir.recv 77) w := by intro w; kernel_rfl
@[simp] theorem runUnderlying76 : ∀ (w : World), Sem.run Star.prog (underlying 76) w = Result.ok (TypeDesc.func #[36] #[] false) w := by intro w; kernel_rfl
@[simp] theorem runUnderlying77 : ∀ (w : World), Sem.run Star.prog (underlying 77) w = Result.ok (TypeDesc.struct #[]) w := by intro w; kernel_rfl
@[simp] theorem runUnderlying78 : ∀ (w : World), Sem.run Star.prog (underlying 78) w = Result.ok (TypeDesc.func #[24] #[36] false) w := by intro w; kernel_rfl
@[simp] theorem runUnderlying79 : ∀ (w : World), Sem.run Star.prog (underlying 79) w = Result.ok (TypeDesc.func #[5, 5] #[5] false) w := by intro w; kernel_rfl
@[simp] theorem runUnderlying8 : ∀ (w : World), Sem.run Star.prog (underlying 8) w = Result.ok (TypeDesc.struct #[{ name := "x", type := 2, offset := 0, embedded := false, tag := "", pkgPath := "runtime", byteOffset := 0 }, { name := "y", type := 3, offset := 1, embedded := false, tag := "", pkgPath := "runtime", byteOffset := 8 }, { name := "signed", type := 4, offset := 2, embedded := false, tag := "", pkgPath := "runtime", byteOffset := 16 }, { name := "code", type := 6, offset := 3, embedded := false, tag := "", pkgPath := "runtime", byteOffset := 17 }]) w := by intro w; kernel_rfl
@[simp] theorem runUnderlying80 : ∀ (w : World), Sem.run Star.prog (underlying 80) w = Result.ok (TypeDesc.func #[36] #[24] false) w := by intro w; kernel_rfl
@[simp] theorem runUnderlying81 : ∀ (w : World), Sem.run Star.prog (underlying 81) w = Result.ok (TypeDesc.func #[24, 3, 3] #[24] false) w := by intro w; kernel_rfl
@[simp] theorem runUnderlying82 : ∀ (w : World), Sem.run Star.prog (underlying 82) w = Result.ok (TypeDesc.func #[50, 3] #[3] false) w := by intro w; kernel_rfl
@[simp] theorem runUnderlying83 : ∀ (w : World), Sem.run Star.prog (underlying 83) w = Result.ok (TypeDesc.func #[22, 3] #[36] false) w := by intro w; kernel_rfl
@[simp] theorem runUnderlying84 : ∀ (w : World), Sem.run Star.prog (underlying 84) w = Result.ok (TypeDesc.slice 22) w := by intro w; kernel_rfl
@[simp] theorem runUnderlying85 : ∀ (w : World), Sem.run Star.prog (underlying 85) w = Result.ok (TypeDesc.func #[36] #[84] false) w := by intro w; kernel_rfl
@[simp] theorem runUnderlying86 : ∀ (w : World), Sem.run Star.prog (underlying 86) w = Result.ok (TypeDesc.func #[24, 3] #[24] false) w := by intro w; kernel_rfl
@[simp] theorem runUnderlying87 : ∀ (w : World), Sem.run Star.prog (underlying 87) w = Result.ok (TypeDesc.tuple #[3, 3]) w := by intro w; kernel_rfl
@[simp] theorem runUnderlying88 : ∀ (w : World), Sem.run Star.prog (underlying 88) w = Result.ok (TypeDesc.func #[3, 3] #[3, 3] false) w := by intro w; kernel_rfl
@[simp] theorem runUnderlying89 : ∀ (w : World), Sem.run Star.prog (underlying 89) w = Result.ok (TypeDesc.array 200 5) w := by intro w; kernel_rfl
@[simp] theorem runUnderlying9 : ∀ (w : World), Sem.run Star.prog (underlying 9) w = Result.ok TypeDesc.string w := by intro w; kernel_rfl
@[simp] theorem runUnderlying90 : ∀ (w : World), Sem.run Star.prog (underlying 90) w = Result.ok (TypeDesc.func #[36, 36] #[36] false) w := by intro w; kernel_rfl
@[simp] theorem runUnderlying91 : ∀ (w : World), Sem.run Star.prog (underlying 91) w = Result.ok (TypeDesc.func #[89] #[24] false) w := by intro w; kernel_rfl
@[simp] theorem runUnderlying92 : ∀ (w : World), Sem.run Star.prog (underlying 92) w = Result.ok (TypeDesc.func #[36] #[36] false) w := by intro w; kernel_rfl
@[simp] theorem runUnderlying93 : ∀ (w : World), Sem.run Star.prog (underlying 93) w = Result.ok (TypeDesc.func #[3] #[22] false) w := by intro w; kernel_rfl
@[simp] theorem runUnderlying94 : ∀ (w : World), Sem.run Star.prog (underlying 94) w = Result.ok (TypeDesc.func #[84] #[36] true) w := by intro w; kernel_rfl
@[simp] theorem runUnderlying95 : ∀ (w : World), Sem.run Star.prog (underlying 95) w = Result.ok (TypeDesc.array 25 3) w := by intro w; kernel_rfl
@[simp] theorem runUnderlying96 : ∀ (w : World), Sem.run Star.prog (underlying 96) w = Result.ok (TypeDesc.func #[] #[95] false) w := by intro w; kernel_rfl
@[simp] theorem runUnderlying97 : ∀ (w : World), Sem.run Star.prog (underlying 97) w = Result.ok (TypeDesc.func #[22, 3] #[22] false) w := by intro w; kernel_rfl
@[simp] theorem runUnderlying98 : ∀ (w : World), Sem.run Star.prog (underlying 98) w = Result.ok (TypeDesc.array 5 22) w := by intro w; kernel_rfl
@[simp] theorem runUnderlying99 : ∀ (w : World), Sem.run Star.prog (underlying 99) w = Result.ok (TypeDesc.func #[84] #[36] false) w := by intro w; kernel_rfl
@[simp] theorem sizeOf0 : ∀ (w : World), Sem.run Star.prog (sizeOf 0) w = Result.ok 1 w := by intro w; kernel_rfl
@[simp] theorem sizeOf1 : ∀ (w : World), Sem.run Star.prog (sizeOf 1) w = Result.ok 1 w := by intro w; kernel_rfl
@[simp] theorem sizeOf10 : ∀ (w : World), Sem.run Star.prog (sizeOf 10) w = Result.ok 1 w := by intro w; kernel_rfl
@[simp] theorem sizeOf100 : ∀ (w : World), Sem.run Star.prog (sizeOf 100) w = Result.ok 1 w := by intro w; kernel_rfl
@[simp] theorem sizeOf101 : ∀ (w : World), Sem.run Star.prog (sizeOf 101) w = Result.ok 1 w := by intro w; kernel_rfl
@[simp] theorem sizeOf102 : ∀ (w : World), Sem.run Star.prog (sizeOf 102) w = Result.ok 1 w := by intro w; kernel_rfl
@[simp] theorem sizeOf103 : ∀ (w : World), Sem.run Star.prog (sizeOf 103) w = Result.ok 1 w := by intro w; kernel_rfl
@[simp] theorem sizeOf104 : ∀ (w : World), Sem.run Star.prog (sizeOf 104) w = Result.ok 1 w := by intro w; kernel_rfl
@[simp] theorem sizeOf105 : ∀ (w : World), Sem.run Star.prog (sizeOf 105) w = Result.ok 1 w := by intro w; kernel_rfl
@[simp] theorem sizeOf106 : ∀ (w : World), Sem.run Star.prog (sizeOf 106) w = Result.ok 1 w := by intro w; kernel_rfl
@[simp] theorem sizeOf107 : ∀ (w : World), Sem.run Star.prog (sizeOf 107) w = Result.ok 1 w := by intro w; kernel_rfl
@[simp] theorem sizeOf108 : ∀ (w : World), Sem.run Star.prog (sizeOf 108) w = Result.ok 1 w := by intro w; kernel_rfl
@[simp] theorem sizeOf109 : ∀ (w : World), Sem.run Star.prog (sizeOf 109) w = Result.ok 1 w := by intro w; kernel_rfl
@[simp] theorem sizeOf11 : ∀ (w : World), Sem.run Star.prog (sizeOf 11) w = Result.ok 1 w := by intro w; kernel_rfl
@[simp] theorem sizeOf110 : ∀ (w : World), Sem.run Star.prog (sizeOf 110) w = Result.ok 1 w := by intro w; kernel_rfl
@[simp] theorem sizeOf111 : ∀ (w : World), Sem.run Star.prog (sizeOf 111) w = Result.ok 1 w := by intro w; kernel_rfl
@[simp] theorem sizeOf112 : ∀ (w : World), Sem.run Star.prog (sizeOf 112) w = Result.ok 1 w := by intro w; kernel_rfl
@[simp] theorem sizeOf113 : ∀ (w : World), Sem.run Star.prog (sizeOf 113) w = Result.ok 1 w := by intro w; kernel_rfl
@[simp] theorem sizeOf114 : ∀ (w : World), Sem.run Star.prog (sizeOf 114) w = Result.ok 1 w := by intro w; kernel_rfl
@[simp] theorem sizeOf115 : ∀ (w : World), Sem.run Star.prog (sizeOf 115) w = Result.ok 5 w := by intro w; kernel_rfl
@[simp] theorem sizeOf116 : ∀ (w : World), Sem.run Star.prog (sizeOf 116) w = Result.ok 25 w := by intro w; kernel_rfl
@[simp] theorem sizeOf117 : ∀ (w : World), Sem.run Star.prog (sizeOf 117) w = Result.ok 1 w := by intro w; kernel_rfl
@[simp] theorem sizeOf118 : ∀ (w : World), Sem.run Star.prog (sizeOf 118) w = Result.ok 1 w := by intro w; kernel_rfl
@[simp] theorem sizeOf119 : ∀ (w : World), Sem.run Star.prog (sizeOf 119) w = Result.ok 1 w := by intro w; kernel_rfl
@[simp] theorem sizeOf12 : ∀ (w : World), Sem.run Star.prog (sizeOf 12) w = Result.ok 1 w := by intro w; kernel_rfl
@[simp] theorem sizeOf120 : ∀ (w : World), Sem.run Star.prog (sizeOf 120) w = Result.ok 1 w := by intro w; kernel_rfl
@[simp] theorem sizeOf121 : ∀ (w : World), Sem.run Star.prog (sizeOf 121) w = Result.ok 4 w := by intro w; kernel_rfl
@[simp] theorem sizeOf122 : ∀ (w : World), Sem.run Star.prog (sizeOf 122) w = Result.ok 4 w := by intro w; kernel_rfl
@[simp] theorem sizeOf123 : ∀ (w : World), Sem.run Star.prog (sizeOf 123) w = Result.ok 0 w := by intro w; kernel_rfl
@[simp] theorem sizeOf124 : ∀ (w : World), Sem.run Star.prog (sizeOf 124) w = Result.ok 0 w := by intro w; kernel_rfl
@[simp] theorem sizeOf125 : ∀ (w : World), Sem.run Star.prog (sizeOf 125) w = Result.ok 0 w := by intro w; kernel_rfl
@[simp] theorem sizeOf126 : ∀ (w : World), Sem.run Star.prog (sizeOf 126) w = Result.ok 1 w := by intro w; kernel_rfl
@[simp] theorem sizeOf127 : ∀ (w : World), Sem.run Star.prog (sizeOf 127) w = Result.ok 1 w := by intro w; kernel_rfl
@[simp] theorem sizeOf128 : ∀ (w : World), Sem.run Star.prog (sizeOf 128) w = Result.ok 1 w := by intro w; kernel_rfl
@[simp] theorem sizeOf129 : ∀ (w : World), Sem.run Star.prog (sizeOf 129) w = Result.ok 1 w := by intro w; kernel_rfl
@[simp] theorem sizeOf13 : ∀ (w : World), Sem.run Star.prog (sizeOf 13) w = Result.ok 2 w := by intro w; kernel_rfl
@[simp] theorem sizeOf130 : ∀ (w : World), Sem.run Star.prog (sizeOf 130) w = Result.ok 1 w := by intro w; kernel_rfl
@[simp] theorem sizeOf131 : ∀ (w : World), Sem.run Star.prog (sizeOf 131) w = Result.ok 1 w := by intro w; kernel_rfl
@[simp] theorem sizeOf132 : ∀ (w : World), Sem.run Star.prog (sizeOf 132) w = Result.ok 1 w := by intro w; kernel_rfl
@[simp] theorem sizeOf133 : ∀ (w : World), Sem.run Star.prog (sizeOf 133) w = Result.ok 11 w := by intro w; kernel_rfl
@[simp] theorem sizeOf134 : ∀ (w : World), Sem.run Star.prog (sizeOf 134) w = Result.ok 11 w := by intro w; kernel_rfl
@[simp] theorem sizeOf135 : ∀ (w : World), Sem.run Star.prog (sizeOf 135) w = Result.ok 1 w := by intro w; kernel_rfl
@[simp] theorem sizeOf14 : ∀ (w : World), Sem.run Star.prog (sizeOf 14) w = Result.ok 2 w := by intro w; kernel_rfl
@[simp] theorem sizeOf15 : ∀ (w : World), Sem.run Star.prog (sizeOf 15) w = Result.ok 1 w := by intro w; kernel_rfl
@[simp] theorem sizeOf16 : ∀ (w : World), Sem.run Star.prog (sizeOf 16) w = Result.ok 1 w := by intro w; kernel_rfl
@[simp] theorem sizeOf17 : ∀ (w : World), Sem.run Star.prog (sizeOf 17) w = Result.ok 1 w := by intro w; kernel_rfl
@[simp] theorem sizeOf18 : ∀ (w : World), Sem.run Star.prog (sizeOf 18) w = Result.ok 1 w := by intro w; kernel_rfl
@[simp] theorem sizeOf19 : ∀ (w : World), Sem.run Star.prog (sizeOf 19) w = Result.ok 1 w := by intro w; kernel_rfl
@[simp] theorem sizeOf2 : ∀ (w : World), Sem.run Star.prog (sizeOf 2) w = Result.ok 1 w := by intro w; kernel_rfl
@[simp] theorem sizeOf20 : ∀ (w : World), Sem.run Star.prog (sizeOf 20) w = Result.ok 1 w := by intro w; kernel_rfl
@[simp] theorem sizeOf21 : ∀ (w : World), Sem.run Star.prog (sizeOf 21) w = Result.ok 1 w := by intro w; kernel_rfl
@[simp] theorem sizeOf22 : ∀ (w : World), Sem.run Star.prog (sizeOf 22) w = Result.ok 1 w := by intro w; kernel_rfl
@[simp] theorem sizeOf23 : ∀ (w : World), Sem.run Star.prog (sizeOf 23) w = Result.ok 25 w := by intro w; kernel_rfl
@[simp] theorem sizeOf24 : ∀ (w : World), Sem.run Star.prog (sizeOf 24) w = Result.ok 25 w := by intro w; kernel_rfl
@[simp] theorem sizeOf25 : ∀ (w : World), Sem.run Star.prog (sizeOf 25) w = Result.ok 29 w := by intro w; kernel_rfl
@[simp] theorem sizeOf26 : ∀ (w : World), Sem.run Star.prog (sizeOf 26) w = Result.ok 29 w := by intro w; kernel_rfl
@[simp] theorem sizeOf27 : ∀ (w : World), Sem.run Star.prog (sizeOf 27) w = Result.ok 1 w := by intro w; kernel_rfl
@[simp] theorem sizeOf28 : ∀ (w : World), Sem.run Star.prog (sizeOf 28) w = Result.ok 1 w := by intro w; kernel_rfl
@[simp] theorem sizeOf29 : ∀ (w : World), Sem.run Star.prog (sizeOf 29) w = Result.ok 1 w := by intro w; kernel_rfl
@[simp] theorem sizeOf3 : ∀ (w : World), Sem.run Star.prog (sizeOf 3) w = Result.ok 1 w := by intro w; kernel_rfl
@[simp] theorem sizeOf30 : ∀ (w : World), Sem.run Star.prog (sizeOf 30) w = Result.ok 1 w := by intro w; kernel_rfl
@[simp] theorem sizeOf31 : ∀ (w : World), Sem.run Star.prog (sizeOf 31) w = Result.ok 1 w := by intro w; kernel_rfl
@[simp] theorem sizeOf32 : ∀ (w : World), Sem.run Star.prog (sizeOf 32) w = Result.ok 1 w := by intro w; kernel_rfl
@[simp] theorem sizeOf33 : ∀ (w : World), Sem.run Star.prog (sizeOf 33) w = Result.ok 1 w := by intro w; kernel_rfl
@[simp] theorem sizeOf34 : ∀ (w : World), Sem.run Star.prog (sizeOf 34) w = Result.ok 1 w := by intro w; kernel_rfl
@[simp] theorem sizeOf35 : ∀ (w : World), Sem.run Star.prog (sizeOf 35) w = Result.ok 1 w := by intro w; kernel_rfl
@[simp] theorem sizeOf36 : ∀ (w : World), Sem.run Star.prog (sizeOf 36) w = Result.ok 1 w := by intro w; kernel_rfl
@[simp] theorem sizeOf37 : ∀ (w : World), Sem.run Star.prog (sizeOf 37) w = Result.ok 3 w := by intro w; kernel_rfl
@[simp] theorem sizeOf38 : ∀ (w : World), Sem.run Star.prog (sizeOf 38) w = Result.ok 3 w := by intro w; kernel_rfl
@[simp] theorem sizeOf39 : ∀ (w : World), Sem.run Star.prog (sizeOf 39) w = Result.ok 1 w := by intro w; kernel_rfl
@[simp] theorem sizeOf4 : ∀ (w : World), Sem.run Star.prog (sizeOf 4) w = Result.ok 1 w := by intro w; kernel_rfl
@[simp] theorem sizeOf40 : ∀ (w : World), Sem.run Star.prog (sizeOf 40) w = Result.ok 1 w := by intro w; kernel_rfl
@[simp] theorem sizeOf41 : ∀ (w : World), Sem.run Star.prog (sizeOf 41) w = Result.ok 1 w := by intro w; kernel_rfl
@[simp] theorem sizeOf42 : ∀ (w : World), Sem.run Star.prog (sizeOf 42) w = Result.ok 1 w := by intro w; kernel_rfl
@[simp] theorem sizeOf43 : ∀ (w : World), Sem.run Star.prog (sizeOf 43) w = Result.ok 1 w := by intro w; kernel_rfl
@[simp] theorem sizeOf44 : ∀ (w : World), Sem.run Star.prog (sizeOf 44) w = Result.ok 30 w := by intro w; kernel_rfl
@[simp] theorem sizeOf45 : ∀ (w : World), Sem.run Star.prog (sizeOf 45) w = Result.ok 30 w := by intro w; kernel_rfl
@[simp] theorem sizeOf46 : ∀ (w : World), Sem.run Star.prog (sizeOf 46) w = Result.ok 1 w := by intro w; kernel_rfl
@[simp] theorem sizeOf47 : ∀ (w : World), Sem.run Star.prog (sizeOf 47) w = Result.ok 1 w := by intro w; kernel_rfl
@[simp] theorem sizeOf48 : ∀ (w : World), Sem.run Star.prog (sizeOf 48) w = Result.ok 1 w := by intro w; kernel_rfl
@[simp] theorem sizeOf49 : ∀ (w : World), Sem.run Star.prog (sizeOf 49) w = Result.ok 1 w := by intro w; kernel_rfl
@[simp] theorem sizeOf5 : ∀ (w : World), Sem.run Star.prog (sizeOf 5) w = Result.ok 1 w := by intro w; kernel_rfl
@[simp] theorem sizeOf50 : ∀ (w : World), Sem.run Star.prog (sizeOf 50) w = Result.ok 1 w := by intro w; kernel_rfl
@[simp] theorem sizeOf51 : ∀ (w : World), Sem.run Star.prog (sizeOf 51) w = Result.ok 1 w := by intro w; kernel_rfl
@[simp] theorem sizeOf52 : ∀ (w : World), Sem.run Star.prog (sizeOf 52) w = Result.ok 1 w := by intro w; kernel_rfl
@[simp] theorem sizeOf53 : ∀ (w : World), Sem.run Star.prog (sizeOf 53) w = Result.ok 1 w := by intro w; kernel_rfl
@[simp] theorem sizeOf54 : ∀ (w : World), Sem.run Star.prog (sizeOf 54) w = Result.ok 1 w := by intro w; kernel_rfl
@[simp] theorem sizeOf55 : ∀ (w : World), Sem.run Star.prog (sizeOf 55) w = Result.ok 2 w := by intro w; kernel_rfl
@[simp] theorem sizeOf56 : ∀ (w : World), Sem.run Star.prog (sizeOf 56) w = Result.ok 1 w := by intro w; kernel_rfl
@[simp] theorem sizeOf57 : ∀ (w : World), Sem.run Star.prog (sizeOf 57) w = Result.ok 1 w := by intro w; kernel_rfl
@[simp] theorem sizeOf58 : ∀ (w : World), Sem.run Star.prog (sizeOf 58) w = Result.ok 1 w := by intro w; kernel_rfl
@[simp] theorem sizeOf59 : ∀ (w : World), Sem.run Star.prog (sizeOf 59) w = Result.ok 1 w := by intro w; kernel_rfl
@[simp] theorem sizeOf6 : ∀ (w : World), Sem.run Star.prog (sizeOf 6) w = Result.ok 1 w := by intro w; kernel_rfl
@[simp] theorem sizeOf60 : ∀ (w : World), Sem.run Star.prog (sizeOf 60) w = Result.ok 1 w := by intro w; kernel_rfl
@[simp] theorem sizeOf61 : ∀ (w : World), Sem.run Star.prog (sizeOf 61) w = Result.ok 29 w := by intro w; kernel_rfl
@[simp] theorem sizeOf62 : ∀ (w : World), Sem.run Star.prog (sizeOf 62) w = Result.ok 29 w := by intro w; kernel_rfl
@[simp] theorem sizeOf63 : ∀ (w : World), Sem.run Star.prog (sizeOf 63) w = Result.ok 1 w := by intro w; kernel_rfl
@[simp] theorem sizeOf64 : ∀ (w : World), Sem.run Star.prog (sizeOf 64) w = Result.ok 1 w := by intro w; kernel_rfl
@[simp] theorem sizeOf65 : ∀ (w : World), Sem.run Star.prog (sizeOf 65) w = Result.ok 1 w := by intro w; kernel_rfl
@[simp] theorem sizeOf66 : ∀ (w : World), Sem.run Star.prog (sizeOf 66) w = Result.ok 1 w := by intro w; kernel_rfl
@[simp] theorem sizeOf67 : ∀ (w : World), Sem.run Star.prog (sizeOf 67) w = Result.ok 1 w := by intro w; kernel_rfl
@[simp] theorem sizeOf68 : ∀ (w : World), Sem.run Star.prog (sizeOf 68) w = Result.ok 1 w := by intro w; kernel_rfl
@[simp] theorem sizeOf69 : ∀ (w : World), Sem.run Star.prog (sizeOf 69) w = Result.ok 1 w := by intro w; kernel_rfl
@[simp] theorem sizeOf7 : ∀ (w : World), Sem.run Star.prog (sizeOf 7) w = Result.ok 4 w := by intro w; kernel_rfl
@[simp] theorem sizeOf70 : ∀ (w : World), Sem.run Star.prog (sizeOf 70) w = Result.ok 1 w := by intro w; kernel_rfl
@[simp] theorem sizeOf71 : ∀ (w : World), Sem.run Star.prog (sizeOf 71) w = Result.ok 1 w := by intro w; kernel_rfl
@[simp] theorem sizeOf72 : ∀ (w : World), Sem.run Star.prog (sizeOf 72) w = Result.ok 1 w := by intro w; kernel_rfl
@[simp] theorem sizeOf73 : ∀ (w : World), Sem.run Star.prog (sizeOf 73) w = Result.ok 1 w := by intro w; kernel_rfl
@[simp] theorem sizeOf74 : ∀ (w : World), Sem.run Star.prog (sizeOf 74) w = Result.ok 1 w := by intro w; kernel_rfl
@[simp] theorem sizeOf75 : ∀ (w : World), Sem.run Star.prog (sizeOf 75) w = Result.ok 1 w := by intro w; kernel_rfl
@[simp] theorem sizeOf76 : ∀ (w : World), Sem.run Star.prog (sizeOf 76) w = Result.ok 1 w := by intro w; kernel_rfl
@[simp] theorem sizeOf77 : ∀ (w : World), Sem.run Star.prog (sizeOf 77) w = Result.ok 0 w := by intro w; kernel_rfl
@[simp] theorem sizeOf78 : ∀ (w : World), Sem.run Star.prog (sizeOf 78) w = Result.ok 1 w := by intro w; kernel_rfl
@[simp] theorem sizeOf79 : ∀ (w : World), Sem.run Star.prog (sizeOf 79) w = Result.ok 1 w := by intro w; kernel_rfl
@[simp] theorem sizeOf8 : ∀ (w : World), Sem.run Star.prog (sizeOf 8) w = Result.ok 4 w := by intro w; kernel_rfl
@[simp] theorem sizeOf80 : ∀ (w : World), Sem.run Star.prog (sizeOf 80) w = Result.ok 1 w := by intro w; kernel_rfl
@[simp] theorem sizeOf81 : ∀ (w : World), Sem.run Star.prog (sizeOf 81) w = Result.ok 1 w := by intro w; kernel_rfl
@[simp] theorem sizeOf82 : ∀ (w : World), Sem.run Star.prog (sizeOf 82) w = Result.ok 1 w := by intro w; kernel_rfl
@[simp] theorem sizeOf83 : ∀ (w : World), Sem.run Star.prog (sizeOf 83) w = Result.ok 1 w := by intro w; kernel_rfl
@[simp] theorem sizeOf84 : ∀ (w : World), Sem.run Star.prog (sizeOf 84) w = Result.ok 1 w := by intro w; kernel_rfl
@[simp] theorem sizeOf85 : ∀ (w : World), Sem.run Star.prog (sizeOf 85) w = Result.ok 1 w := by intro w; kernel_rfl
@[simp] theorem sizeOf86 : ∀ (w : World), Sem.run Star.prog (sizeOf 86) w = Result.ok 1 w := by intro w; kernel_rfl
@[simp] theorem sizeOf87 : ∀ (w : World), Sem.run Star.prog (sizeOf 87) w = Result.ok 1 w := by intro w; kernel_rfl
@[simp] theorem sizeOf88 : ∀ (w : World), Sem.run Star.prog (sizeOf 88) w = Result.ok 1 w := by intro w; kernel_rfl
@[simp] theorem sizeOf89 : ∀ (w : World), Sem.run Star.prog (sizeOf 89) w = Result.ok 200 w := by intro w; kernel_rfl
@[simp] theorem sizeOf9 : ∀ (w : World), Sem.run Star.prog (sizeOf 9) w = Result.ok 1 w := by intro w; kernel_rfl
@[simp] theorem sizeOf90 : ∀ (w : World), Sem.run Star.prog (sizeOf 90) w = Result.ok 1 w := by intro w; kernel_rfl
@[simp] theorem sizeOf91 : ∀ (w : World), Sem.run Star.prog (sizeOf 91) w = Result.ok 1 w := by intro w; kernel_rfl
@[simp] theorem sizeOf92 : ∀ (w : World), Sem.run Star.prog (sizeOf 92) w = Result.ok 1 w := by intro w; kernel_rfl
@[simp] theorem sizeOf93 : ∀ (w : World), Sem.run Star.prog (sizeOf 93) w = Result.ok 1 w := by intro w; kernel_rfl
@[simp] theorem sizeOf94 : ∀ (w : World), Sem.run Star.prog (sizeOf 94) w = Result.ok 1 w := by intro w; kernel_rfl
@[simp] theorem sizeOf95 : ∀ (w : World), Sem.run Star.prog (sizeOf 95) w = Result.ok 25 w := by intro w; kernel_rfl
@[simp] theorem sizeOf96 : ∀ (w : World), Sem.run Star.prog (sizeOf 96) w = Result.ok 1 w := by intro w; kernel_rfl
@[simp] theorem sizeOf97 : ∀ (w : World), Sem.run Star.prog (sizeOf 97) w = Result.ok 1 w := by intro w; kernel_rfl
@[simp] theorem sizeOf98 : ∀ (w : World), Sem.run Star.prog (sizeOf 98) w = Result.ok 5 w := by intro w; kernel_rfl
@[simp] theorem sizeOf99 : ∀ (w : World), Sem.run Star.prog (sizeOf 99) w = Result.ok 1 w := by intro w; kernel_rfl
@[simp] theorem stoodInHeld121 : Star.prog.stoodInHeld 121 = true := by kernel_rfl
@[simp] theorem stoodInHeld122 : Star.prog.stoodInHeld 122 = true := by kernel_rfl
@[simp] theorem stoodInHeld124 : Star.prog.stoodInHeld 124 = true := by kernel_rfl
@[simp] theorem stoodInHeld125 : Star.prog.stoodInHeld 125 = true := by kernel_rfl
@[simp] theorem stoodInHeld13 : Star.prog.stoodInHeld 13 = true := by kernel_rfl
@[simp] theorem stoodInHeld133 : Star.prog.stoodInHeld 133 = true := by kernel_rfl
@[simp] theorem stoodInHeld134 : Star.prog.stoodInHeld 134 = true := by kernel_rfl
@[simp] theorem stoodInHeld14 : Star.prog.stoodInHeld 14 = true := by kernel_rfl
@[simp] theorem stoodInHeld18 : Star.prog.stoodInHeld 18 = true := by kernel_rfl
@[simp] theorem stoodInHeld19 : Star.prog.stoodInHeld 19 = true := by kernel_rfl
@[simp] theorem stoodInHeld25 : Star.prog.stoodInHeld 25 = false := by kernel_rfl
@[simp] theorem stoodInHeld26 : Star.prog.stoodInHeld 26 = false := by kernel_rfl
@[simp] theorem stoodInHeld37 : Star.prog.stoodInHeld 37 = false := by kernel_rfl
@[simp] theorem stoodInHeld38 : Star.prog.stoodInHeld 38 = false := by kernel_rfl
@[simp] theorem stoodInHeld44 : Star.prog.stoodInHeld 44 = false := by kernel_rfl
@[simp] theorem stoodInHeld45 : Star.prog.stoodInHeld 45 = false := by kernel_rfl
@[simp] theorem stoodInHeld61 : Star.prog.stoodInHeld 61 = false := by kernel_rfl
@[simp] theorem stoodInHeld62 : Star.prog.stoodInHeld 62 = false := by kernel_rfl
@[simp] theorem stoodInHeld7 : Star.prog.stoodInHeld 7 = false := by kernel_rfl
@[simp] theorem stoodInHeld77 : Star.prog.stoodInHeld 77 = false := by kernel_rfl
@[simp] theorem stoodInHeld8 : Star.prog.stoodInHeld 8 = false := by kernel_rfl
@[simp] theorem type0 : Star.prog.types[0]? = some Tryd.t0 := by kernel_rfl
@[simp] theorem type1 : Star.prog.types[1]? = some Tryd.t1 := by kernel_rfl
@[simp] theorem type10 : Star.prog.types[10]? = some Tryd.t10 := by kernel_rfl
@[simp] theorem type100 : Star.prog.types[100]? = some Tryd.t100 := by kernel_rfl
@[simp] theorem type101 : Star.prog.types[101]? = some Tryd.t101 := by kernel_rfl
@[simp] theorem type102 : Star.prog.types[102]? = some Tryd.t102 := by kernel_rfl
@[simp] theorem type103 : Star.prog.types[103]? = some Tryd.t103 := by kernel_rfl
@[simp] theorem type104 : Star.prog.types[104]? = some Tryd.t104 := by kernel_rfl
@[simp] theorem type105 : Star.prog.types[105]? = some Tryd.t105 := by kernel_rfl
@[simp] theorem type106 : Star.prog.types[106]? = some Tryd.t106 := by kernel_rfl
@[simp] theorem type107 : Star.prog.types[107]? = some Tryd.t107 := by kernel_rfl
@[simp] theorem type108 : Star.prog.types[108]? = some Tryd.t108 := by kernel_rfl
@[simp] theorem type109 : Star.prog.types[109]? = some Tryd.t109 := by kernel_rfl
@[simp] theorem type11 : Star.prog.types[11]? = some Tryd.t11 := by kernel_rfl
@[simp] theorem type110 : Star.prog.types[110]? = some Tryd.t110 := by kernel_rfl
@[simp] theorem type111 : Star.prog.types[111]? = some Tryd.t111 := by kernel_rfl
@[simp] theorem type112 : Star.prog.types[112]? = some Tryd.t112 := by kernel_rfl
@[simp] theorem type113 : Star.prog.types[113]? = some Tryd.t113 := by kernel_rfl
@[simp] theorem type114 : Star.prog.types[114]? = some Tryd.t114 := by kernel_rfl
@[simp] theorem type115 : Star.prog.types[115]? = some Tryd.t115 := by kernel_rfl
@[simp] theorem type116 : Star.prog.types[116]? = some Tryd.t116 := by kernel_rfl
@[simp] theorem type117 : Star.prog.types[117]? = some Tryd.t117 := by kernel_rfl
@[simp] theorem type118 : Star.prog.types[118]? = some Tryd.t118 := by kernel_rfl
@[simp] theorem type119 : Star.prog.types[119]? = some Tryd.t119 := by kernel_rfl
@[simp] theorem type12 : Star.prog.types[12]? = some Tryd.t12 := by kernel_rfl
@[simp] theorem type120 : Star.prog.types[120]? = some Tryd.t120 := by kernel_rfl
@[simp] theorem type121 : Star.prog.types[121]? = some Tryd.t121 := by kernel_rfl
@[simp] theorem type122 : Star.prog.types[122]? = some Tryd.t122 := by kernel_rfl
@[simp] theorem type123 : Star.prog.types[123]? = some Tryd.t123 := by kernel_rfl
@[simp] theorem type124 : Star.prog.types[124]? = some Tryd.t124 := by kernel_rfl
@[simp] theorem type125 : Star.prog.types[125]? = some Tryd.t125 := by kernel_rfl
@[simp] theorem type126 : Star.prog.types[126]? = some Tryd.t126 := by kernel_rfl
@[simp] theorem type127 : Star.prog.types[127]? = some Tryd.t127 := by kernel_rfl
@[simp] theorem type128 : Star.prog.types[128]? = some Tryd.t128 := by kernel_rfl
@[simp] theorem type129 : Star.prog.types[129]? = some Tryd.t129 := by kernel_rfl
@[simp] theorem type13 : Star.prog.types[13]? = some Tryd.t13 := by kernel_rfl
@[simp] theorem type130 : Star.prog.types[130]? = some Tryd.t130 := by kernel_rfl
@[simp] theorem type131 : Star.prog.types[131]? = some Tryd.t131 := by kernel_rfl
@[simp] theorem type132 : Star.prog.types[132]? = some Tryd.t132 := by kernel_rfl
@[simp] theorem type133 : Star.prog.types[133]? = some Tryd.t133 := by kernel_rfl
@[simp] theorem type134 : Star.prog.types[134]? = some Tryd.t134 := by kernel_rfl
@[simp] theorem type135 : Star.prog.types[135]? = some Tryd.t135 := by kernel_rfl
@[simp] theorem type14 : Star.prog.types[14]? = some Tryd.t14 := by kernel_rfl
@[simp] theorem type15 : Star.prog.types[15]? = some Tryd.t15 := by kernel_rfl
@[simp] theorem type16 : Star.prog.types[16]? = some Tryd.t16 := by kernel_rfl
@[simp] theorem type17 : Star.prog.types[17]? = some Tryd.t17 := by kernel_rfl
@[simp] theorem type18 : Star.prog.types[18]? = some Tryd.t18 := by kernel_rfl
@[simp] theorem type19 : Star.prog.types[19]? = some Tryd.t19 := by kernel_rfl
@[simp] theorem type2 : Star.prog.types[2]? = some Tryd.t2 := by kernel_rfl
@[simp] theorem type20 : Star.prog.types[20]? = some Tryd.t20 := by kernel_rfl
@[simp] theorem type21 : Star.prog.types[21]? = some Tryd.t21 := by kernel_rfl
@[simp] theorem type22 : Star.prog.types[22]? = some Tryd.t22 := by kernel_rfl
@[simp] theorem type23 : Star.prog.types[23]? = some Tryd.t23 := by kernel_rfl
@[simp] theorem type24 : Star.prog.types[24]? = some Tryd.t24 := by kernel_rfl
@[simp] theorem type25 : Star.prog.types[25]? = some Tryd.t25 := by kernel_rfl
@[simp] theorem type26 : Star.prog.types[26]? = some Tryd.t26 := by kernel_rfl
@[simp] theorem type27 : Star.prog.types[27]? = some Tryd.t27 := by kernel_rfl
@[simp] theorem type28 : Star.prog.types[28]? = some Tryd.t28 := by kernel_rfl
@[simp] theorem type29 : Star.prog.types[29]? = some Tryd.t29 := by kernel_rfl
@[simp] theorem type3 : Star.prog.types[3]? = some Tryd.t3 := by kernel_rfl
@[simp] theorem type30 : Star.prog.types[30]? = some Tryd.t30 := by kernel_rfl
@[simp] theorem type31 : Star.prog.types[31]? = some Tryd.t31 := by kernel_rfl
@[simp] theorem type32 : Star.prog.types[32]? = some Tryd.t32 := by kernel_rfl
@[simp] theorem type33 : Star.prog.types[33]? = some Tryd.t33 := by kernel_rfl
@[simp] theorem type34 : Star.prog.types[34]? = some Tryd.t34 := by kernel_rfl
@[simp] theorem type35 : Star.prog.types[35]? = some Tryd.t35 := by kernel_rfl
@[simp] theorem type36 : Star.prog.types[36]? = some Tryd.t36 := by kernel_rfl
@[simp] theorem type37 : Star.prog.types[37]? = some Tryd.t37 := by kernel_rfl
@[simp] theorem type38 : Star.prog.types[38]? = some Tryd.t38 := by kernel_rfl
@[simp] theorem type39 : Star.prog.types[39]? = some Tryd.t39 := by kernel_rfl
@[simp] theorem type4 : Star.prog.types[4]? = some Tryd.t4 := by kernel_rfl
@[simp] theorem type40 : Star.prog.types[40]? = some Tryd.t40 := by kernel_rfl
@[simp] theorem type41 : Star.prog.types[41]? = some Tryd.t41 := by kernel_rfl
@[simp] theorem type42 : Star.prog.types[42]? = some Tryd.t42 := by kernel_rfl
@[simp] theorem type43 : Star.prog.types[43]? = some Tryd.t43 := by kernel_rfl
@[simp] theorem type44 : Star.prog.types[44]? = some Tryd.t44 := by kernel_rfl
@[simp] theorem type45 : Star.prog.types[45]? = some Tryd.t45 := by kernel_rfl
@[simp] theorem type46 : Star.prog.types[46]? = some Tryd.t46 := by kernel_rfl
@[simp] theorem type47 : Star.prog.types[47]? = some Tryd.t47 := by kernel_rfl
@[simp] theorem type48 : Star.prog.types[48]? = some Tryd.t48 := by kernel_rfl
@[simp] theorem type49 : Star.prog.types[49]? = some Tryd.t49 := by kernel_rfl
@[simp] theorem type5 : Star.prog.types[5]? = some Tryd.t5 := by kernel_rfl
@[simp] theorem type50 : Star.prog.types[50]? = some Tryd.t50 := by kernel_rfl
@[simp] theorem type51 : Star.prog.types[51]? = some Tryd.t51 := by kernel_rfl
@[simp] theorem type52 : Star.prog.types[52]? = some Tryd.t52 := by kernel_rfl
@[simp] theorem type53 : Star.prog.types[53]? = some Tryd.t53 := by kernel_rfl
@[simp] theorem type54 : Star.prog.types[54]? = some Tryd.t54 := by kernel_rfl
@[simp] theorem type55 : Star.prog.types[55]? = some Tryd.t55 := by kernel_rfl
@[simp] theorem type56 : Star.prog.types[56]? = some Tryd.t56 := by kernel_rfl
@[simp] theorem type57 : Star.prog.types[57]? = some Tryd.t57 := by kernel_rfl
@[simp] theorem type58 : Star.prog.types[58]? = some Tryd.t58 := by kernel_rfl
@[simp] theorem type59 : Star.prog.types[59]? = some Tryd.t59 := by kernel_rfl
@[simp] theorem type6 : Star.prog.types[6]? = some Tryd.t6 := by kernel_rfl
@[simp] theorem type60 : Star.prog.types[60]? = some Tryd.t60 := by kernel_rfl
@[simp] theorem type61 : Star.prog.types[61]? = some Tryd.t61 := by kernel_rfl
@[simp] theorem type62 : Star.prog.types[62]? = some Tryd.t62 := by kernel_rfl
@[simp] theorem type63 : Star.prog.types[63]? = some Tryd.t63 := by kernel_rfl
@[simp] theorem type64 : Star.prog.types[64]? = some Tryd.t64 := by kernel_rfl
@[simp] theorem type65 : Star.prog.types[65]? = some Tryd.t65 := by kernel_rfl
@[simp] theorem type66 : Star.prog.types[66]? = some Tryd.t66 := by kernel_rfl
@[simp] theorem type67 : Star.prog.types[67]? = some Tryd.t67 := by kernel_rfl
@[simp] theorem type68 : Star.prog.types[68]? = some Tryd.t68 := by kernel_rfl
@[simp] theorem type69 : Star.prog.types[69]? = some Tryd.t69 := by kernel_rfl
@[simp] theorem type7 : Star.prog.types[7]? = some Tryd.t7 := by kernel_rfl
@[simp] theorem type70 : Star.prog.types[70]? = some Tryd.t70 := by kernel_rfl
@[simp] theorem type71 : Star.prog.types[71]? = some Tryd.t71 := by kernel_rfl
@[simp] theorem type72 : Star.prog.types[72]? = some Tryd.t72 := by kernel_rfl
@[simp] theorem type73 : Star.prog.types[73]? = some Tryd.t73 := by kernel_rfl
@[simp] theorem type74 : Star.prog.types[74]? = some Tryd.t74 := by kernel_rfl
@[simp] theorem type75 : Star.prog.types[75]? = some Tryd.t75 := by kernel_rfl
@[simp] theorem type76 : Star.prog.types[76]? = some Tryd.t76 := by kernel_rfl
@[simp] theorem type77 : Star.prog.types[77]? = some Tryd.t77 := by kernel_rfl
@[simp] theorem type78 : Star.prog.types[78]? = some Tryd.t78 := by kernel_rfl
@[simp] theorem type79 : Star.prog.types[79]? = some Tryd.t79 := by kernel_rfl
@[simp] theorem type8 : Star.prog.types[8]? = some Tryd.t8 := by kernel_rfl
@[simp] theorem type80 : Star.prog.types[80]? = some Tryd.t80 := by kernel_rfl
@[simp] theorem type81 : Star.prog.types[81]? = some Tryd.t81 := by kernel_rfl
@[simp] theorem type82 : Star.prog.types[82]? = some Tryd.t82 := by kernel_rfl
@[simp] theorem type83 : Star.prog.types[83]? = some Tryd.t83 := by kernel_rfl
@[simp] theorem type84 : Star.prog.types[84]? = some Tryd.t84 := by kernel_rfl
@[simp] theorem type85 : Star.prog.types[85]? = some Tryd.t85 := by kernel_rfl
@[simp] theorem type86 : Star.prog.types[86]? = some Tryd.t86 := by kernel_rfl
@[simp] theorem type87 : Star.prog.types[87]? = some Tryd.t87 := by kernel_rfl
@[simp] theorem type88 : Star.prog.types[88]? = some Tryd.t88 := by kernel_rfl
@[simp] theorem type89 : Star.prog.types[89]? = some Tryd.t89 := by kernel_rfl
@[simp] theorem type9 : Star.prog.types[9]? = some Tryd.t9 := by kernel_rfl
@[simp] theorem type90 : Star.prog.types[90]? = some Tryd.t90 := by kernel_rfl
@[simp] theorem type91 : Star.prog.types[91]? = some Tryd.t91 := by kernel_rfl
@[simp] theorem type92 : Star.prog.types[92]? = some Tryd.t92 := by kernel_rfl
@[simp] theorem type93 : Star.prog.types[93]? = some Tryd.t93 := by kernel_rfl
@[simp] theorem type94 : Star.prog.types[94]? = some Tryd.t94 := by kernel_rfl
@[simp] theorem type95 : Star.prog.types[95]? = some Tryd.t95 := by kernel_rfl
@[simp] theorem type96 : Star.prog.types[96]? = some Tryd.t96 := by kernel_rfl
@[simp] theorem type97 : Star.prog.types[97]? = some Tryd.t97 := by kernel_rfl
@[simp] theorem type98 : Star.prog.types[98]? = some Tryd.t98 := by kernel_rfl
@[simp] theorem type99 : Star.prog.types[99]? = some Tryd.t99 := by kernel_rfl
@[simp] theorem typeInfo0 : ∀ (w : World), Sem.run Star.prog (typeInfo 0) w = Result.ok Tryd.t0 w := by intro w; kernel_rfl
@[simp] theorem typeInfo1 : ∀ (w : World), Sem.run Star.prog (typeInfo 1) w = Result.ok Tryd.t1 w := by intro w; kernel_rfl
@[simp] theorem typeInfo10 : ∀ (w : World), Sem.run Star.prog (typeInfo 10) w = Result.ok Tryd.t10 w := by intro w; kernel_rfl
@[simp] theorem typeInfo100 : ∀ (w : World), Sem.run Star.prog (typeInfo 100) w = Result.ok Tryd.t100 w := by intro w; kernel_rfl
@[simp] theorem typeInfo101 : ∀ (w : World), Sem.run Star.prog (typeInfo 101) w = Result.ok Tryd.t101 w := by intro w; kernel_rfl
@[simp] theorem typeInfo102 : ∀ (w : World), Sem.run Star.prog (typeInfo 102) w = Result.ok Tryd.t102 w := by intro w; kernel_rfl
@[simp] theorem typeInfo103 : ∀ (w : World), Sem.run Star.prog (typeInfo 103) w = Result.ok Tryd.t103 w := by intro w; kernel_rfl
@[simp] theorem typeInfo104 : ∀ (w : World), Sem.run Star.prog (typeInfo 104) w = Result.ok Tryd.t104 w := by intro w; kernel_rfl
@[simp] theorem typeInfo105 : ∀ (w : World), Sem.run Star.prog (typeInfo 105) w = Result.ok Tryd.t105 w := by intro w; kernel_rfl
@[simp] theorem typeInfo106 : ∀ (w : World), Sem.run Star.prog (typeInfo 106) w = Result.ok Tryd.t106 w := by intro w; kernel_rfl
@[simp] theorem typeInfo107 : ∀ (w : World), Sem.run Star.prog (typeInfo 107) w = Result.ok Tryd.t107 w := by intro w; kernel_rfl
@[simp] theorem typeInfo108 : ∀ (w : World), Sem.run Star.prog (typeInfo 108) w = Result.ok Tryd.t108 w := by intro w; kernel_rfl
@[simp] theorem typeInfo109 : ∀ (w : World), Sem.run Star.prog (typeInfo 109) w = Result.ok Tryd.t109 w := by intro w; kernel_rfl
@[simp] theorem typeInfo11 : ∀ (w : World), Sem.run Star.prog (typeInfo 11) w = Result.ok Tryd.t11 w := by intro w; kernel_rfl
@[simp] theorem typeInfo110 : ∀ (w : World), Sem.run Star.prog (typeInfo 110) w = Result.ok Tryd.t110 w := by intro w; kernel_rfl
@[simp] theorem typeInfo111 : ∀ (w : World), Sem.run Star.prog (typeInfo 111) w = Result.ok Tryd.t111 w := by intro w; kernel_rfl
@[simp] theorem typeInfo112 : ∀ (w : World), Sem.run Star.prog (typeInfo 112) w = Result.ok Tryd.t112 w := by intro w; kernel_rfl
@[simp] theorem typeInfo113 : ∀ (w : World), Sem.run Star.prog (typeInfo 113) w = Result.ok Tryd.t113 w := by intro w; kernel_rfl
@[simp] theorem typeInfo114 : ∀ (w : World), Sem.run Star.prog (typeInfo 114) w = Result.ok Tryd.t114 w := by intro w; kernel_rfl
@[simp] theorem typeInfo115 : ∀ (w : World), Sem.run Star.prog (typeInfo 115) w = Result.ok Tryd.t115 w := by intro w; kernel_rfl
@[simp] theorem typeInfo116 : ∀ (w : World), Sem.run Star.prog (typeInfo 116) w = Result.ok Tryd.t116 w := by intro w; kernel_rfl
@[simp] theorem typeInfo117 : ∀ (w : World), Sem.run Star.prog (typeInfo 117) w = Result.ok Tryd.t117 w := by intro w; kernel_rfl
@[simp] theorem typeInfo118 : ∀ (w : World), Sem.run Star.prog (typeInfo 118) w = Result.ok Tryd.t118 w := by intro w; kernel_rfl
@[simp] theorem typeInfo119 : ∀ (w : World), Sem.run Star.prog (typeInfo 119) w = Result.ok Tryd.t119 w := by intro w; kernel_rfl
@[simp] theorem typeInfo12 : ∀ (w : World), Sem.run Star.prog (typeInfo 12) w = Result.ok Tryd.t12 w := by intro w; kernel_rfl
@[simp] theorem typeInfo120 : ∀ (w : World), Sem.run Star.prog (typeInfo 120) w = Result.ok Tryd.t120 w := by intro w; kernel_rfl
@[simp] theorem typeInfo121 : ∀ (w : World), Sem.run Star.prog (typeInfo 121) w = Result.ok Tryd.t121 w := by intro w; kernel_rfl
@[simp] theorem typeInfo122 : ∀ (w : World), Sem.run Star.prog (typeInfo 122) w = Result.ok Tryd.t122 w := by intro w; kernel_rfl
@[simp] theorem typeInfo123 : ∀ (w : World), Sem.run Star.prog (typeInfo 123) w = Result.ok Tryd.t123 w := by intro w; kernel_rfl
@[simp] theorem typeInfo124 : ∀ (w : World), Sem.run Star.prog (typeInfo 124) w = Result.ok Tryd.t124 w := by intro w; kernel_rfl
@[simp] theorem typeInfo125 : ∀ (w : World), Sem.run Star.prog (typeInfo 125) w = Result.ok Tryd.t125 w := by intro w; kernel_rfl
@[simp] theorem typeInfo126 : ∀ (w : World), Sem.run Star.prog (typeInfo 126) w = Result.ok Tryd.t126 w := by intro w; kernel_rfl
@[simp] theorem typeInfo127 : ∀ (w : World), Sem.run Star.prog (typeInfo 127) w = Result.ok Tryd.t127 w := by intro w; kernel_rfl
@[simp] theorem typeInfo128 : ∀ (w : World), Sem.run Star.prog (typeInfo 128) w = Result.ok Tryd.t128 w := by intro w; kernel_rfl
@[simp] theorem typeInfo129 : ∀ (w : World), Sem.run Star.prog (typeInfo 129) w = Result.ok Tryd.t129 w := by intro w; kernel_rfl
@[simp] theorem typeInfo13 : ∀ (w : World), Sem.run Star.prog (typeInfo 13) w = Result.ok Tryd.t13 w := by intro w; kernel_rfl
@[simp] theorem typeInfo130 : ∀ (w : World), Sem.run Star.prog (typeInfo 130) w = Result.ok Tryd.t130 w := by intro w; kernel_rfl
@[simp] theorem typeInfo131 : ∀ (w : World), Sem.run Star.prog (typeInfo 131) w = Result.ok Tryd.t131 w := by intro w; kernel_rfl
@[simp] theorem typeInfo132 : ∀ (w : World), Sem.run Star.prog (typeInfo 132) w = Result.ok Tryd.t132 w := by intro w; kernel_rfl
@[simp] theorem typeInfo133 : ∀ (w : World), Sem.run Star.prog (typeInfo 133) w = Result.ok Tryd.t133 w := by intro w; kernel_rfl
@[simp] theorem typeInfo134 : ∀ (w : World), Sem.run Star.prog (typeInfo 134) w = Result.ok Tryd.t134 w := by intro w; kernel_rfl
@[simp] theorem typeInfo135 : ∀ (w : World), Sem.run Star.prog (typeInfo 135) w = Result.ok Tryd.t135 w := by intro w; kernel_rfl
@[simp] theorem typeInfo14 : ∀ (w : World), Sem.run Star.prog (typeInfo 14) w = Result.ok Tryd.t14 w := by intro w; kernel_rfl
@[simp] theorem typeInfo15 : ∀ (w : World), Sem.run Star.prog (typeInfo 15) w = Result.ok Tryd.t15 w := by intro w; kernel_rfl
@[simp] theorem typeInfo16 : ∀ (w : World), Sem.run Star.prog (typeInfo 16) w = Result.ok Tryd.t16 w := by intro w; kernel_rfl
@[simp] theorem typeInfo17 : ∀ (w : World), Sem.run Star.prog (typeInfo 17) w = Result.ok Tryd.t17 w := by intro w; kernel_rfl
@[simp] theorem typeInfo18 : ∀ (w : World), Sem.run Star.prog (typeInfo 18) w = Result.ok Tryd.t18 w := by intro w; kernel_rfl
@[simp] theorem typeInfo19 : ∀ (w : World), Sem.run Star.prog (typeInfo 19) w = Result.ok Tryd.t19 w := by intro w; kernel_rfl
@[simp] theorem typeInfo2 : ∀ (w : World), Sem.run Star.prog (typeInfo 2) w = Result.ok Tryd.t2 w := by intro w; kernel_rfl
@[simp] theorem typeInfo20 : ∀ (w : World), Sem.run Star.prog (typeInfo 20) w = Result.ok Tryd.t20 w := by intro w; kernel_rfl
@[simp] theorem typeInfo21 : ∀ (w : World), Sem.run Star.prog (typeInfo 21) w = Result.ok Tryd.t21 w := by intro w; kernel_rfl
@[simp] theorem typeInfo22 : ∀ (w : World), Sem.run Star.prog (typeInfo 22) w = Result.ok Tryd.t22 w := by intro w; kernel_rfl
@[simp] theorem typeInfo23 : ∀ (w : World), Sem.run Star.prog (typeInfo 23) w = Result.ok Tryd.t23 w := by intro w; kernel_rfl
@[simp] theorem typeInfo24 : ∀ (w : World), Sem.run Star.prog (typeInfo 24) w = Result.ok Tryd.t24 w := by intro w; kernel_rfl
@[simp] theorem typeInfo25 : ∀ (w : World), Sem.run Star.prog (typeInfo 25) w = Result.ok Tryd.t25 w := by intro w; kernel_rfl
@[simp] theorem typeInfo26 : ∀ (w : World), Sem.run Star.prog (typeInfo 26) w = Result.ok Tryd.t26 w := by intro w; kernel_rfl
@[simp] theorem typeInfo27 : ∀ (w : World), Sem.run Star.prog (typeInfo 27) w = Result.ok Tryd.t27 w := by intro w; kernel_rfl
@[simp] theorem typeInfo28 : ∀ (w : World), Sem.run Star.prog (typeInfo 28) w = Result.ok Tryd.t28 w := by intro w; kernel_rfl
@[simp] theorem typeInfo29 : ∀ (w : World), Sem.run Star.prog (typeInfo 29) w = Result.ok Tryd.t29 w := by intro w; kernel_rfl
@[simp] theorem typeInfo3 : ∀ (w : World), Sem.run Star.prog (typeInfo 3) w = Result.ok Tryd.t3 w := by intro w; kernel_rfl
@[simp] theorem typeInfo30 : ∀ (w : World), Sem.run Star.prog (typeInfo 30) w = Result.ok Tryd.t30 w := by intro w; kernel_rfl
@[simp] theorem typeInfo31 : ∀ (w : World), Sem.run Star.prog (typeInfo 31) w = Result.ok Tryd.t31 w := by intro w; kernel_rfl
@[simp] theorem typeInfo32 : ∀ (w : World), Sem.run Star.prog (typeInfo 32) w = Result.ok Tryd.t32 w := by intro w; kernel_rfl
@[simp] theorem typeInfo33 : ∀ (w : World), Sem.run Star.prog (typeInfo 33) w = Result.ok Tryd.t33 w := by intro w; kernel_rfl
@[simp] theorem typeInfo34 : ∀ (w : World), Sem.run Star.prog (typeInfo 34) w = Result.ok Tryd.t34 w := by intro w; kernel_rfl
@[simp] theorem typeInfo35 : ∀ (w : World), Sem.run Star.prog (typeInfo 35) w = Result.ok Tryd.t35 w := by intro w; kernel_rfl
@[simp] theorem typeInfo36 : ∀ (w : World), Sem.run Star.prog (typeInfo 36) w = Result.ok Tryd.t36 w := by intro w; kernel_rfl
@[simp] theorem typeInfo37 : ∀ (w : World), Sem.run Star.prog (typeInfo 37) w = Result.ok Tryd.t37 w := by intro w; kernel_rfl
@[simp] theorem typeInfo38 : ∀ (w : World), Sem.run Star.prog (typeInfo 38) w = Result.ok Tryd.t38 w := by intro w; kernel_rfl
@[simp] theorem typeInfo39 : ∀ (w : World), Sem.run Star.prog (typeInfo 39) w = Result.ok Tryd.t39 w := by intro w; kernel_rfl
@[simp] theorem typeInfo4 : ∀ (w : World), Sem.run Star.prog (typeInfo 4) w = Result.ok Tryd.t4 w := by intro w; kernel_rfl
@[simp] theorem typeInfo40 : ∀ (w : World), Sem.run Star.prog (typeInfo 40) w = Result.ok Tryd.t40 w := by intro w; kernel_rfl
@[simp] theorem typeInfo41 : ∀ (w : World), Sem.run Star.prog (typeInfo 41) w = Result.ok Tryd.t41 w := by intro w; kernel_rfl
@[simp] theorem typeInfo42 : ∀ (w : World), Sem.run Star.prog (typeInfo 42) w = Result.ok Tryd.t42 w := by intro w; kernel_rfl
@[simp] theorem typeInfo43 : ∀ (w : World), Sem.run Star.prog (typeInfo 43) w = Result.ok Tryd.t43 w := by intro w; kernel_rfl
@[simp] theorem typeInfo44 : ∀ (w : World), Sem.run Star.prog (typeInfo 44) w = Result.ok Tryd.t44 w := by intro w; kernel_rfl
@[simp] theorem typeInfo45 : ∀ (w : World), Sem.run Star.prog (typeInfo 45) w = Result.ok Tryd.t45 w := by intro w; kernel_rfl
@[simp] theorem typeInfo46 : ∀ (w : World), Sem.run Star.prog (typeInfo 46) w = Result.ok Tryd.t46 w := by intro w; kernel_rfl
@[simp] theorem typeInfo47 : ∀ (w : World), Sem.run Star.prog (typeInfo 47) w = Result.ok Tryd.t47 w := by intro w; kernel_rfl
@[simp] theorem typeInfo48 : ∀ (w : World), Sem.run Star.prog (typeInfo 48) w = Result.ok Tryd.t48 w := by intro w; kernel_rfl
@[simp] theorem typeInfo49 : ∀ (w : World), Sem.run Star.prog (typeInfo 49) w = Result.ok Tryd.t49 w := by intro w; kernel_rfl
@[simp] theorem typeInfo5 : ∀ (w : World), Sem.run Star.prog (typeInfo 5) w = Result.ok Tryd.t5 w := by intro w; kernel_rfl
@[simp] theorem typeInfo50 : ∀ (w : World), Sem.run Star.prog (typeInfo 50) w = Result.ok Tryd.t50 w := by intro w; kernel_rfl
@[simp] theorem typeInfo51 : ∀ (w : World), Sem.run Star.prog (typeInfo 51) w = Result.ok Tryd.t51 w := by intro w; kernel_rfl
@[simp] theorem typeInfo52 : ∀ (w : World), Sem.run Star.prog (typeInfo 52) w = Result.ok Tryd.t52 w := by intro w; kernel_rfl
@[simp] theorem typeInfo53 : ∀ (w : World), Sem.run Star.prog (typeInfo 53) w = Result.ok Tryd.t53 w := by intro w; kernel_rfl
@[simp] theorem typeInfo54 : ∀ (w : World), Sem.run Star.prog (typeInfo 54) w = Result.ok Tryd.t54 w := by intro w; kernel_rfl
@[simp] theorem typeInfo55 : ∀ (w : World), Sem.run Star.prog (typeInfo 55) w = Result.ok Tryd.t55 w := by intro w; kernel_rfl
@[simp] theorem typeInfo56 : ∀ (w : World), Sem.run Star.prog (typeInfo 56) w = Result.ok Tryd.t56 w := by intro w; kernel_rfl
@[simp] theorem typeInfo57 : ∀ (w : World), Sem.run Star.prog (typeInfo 57) w = Result.ok Tryd.t57 w := by intro w; kernel_rfl
@[simp] theorem typeInfo58 : ∀ (w : World), Sem.run Star.prog (typeInfo 58) w = Result.ok Tryd.t58 w := by intro w; kernel_rfl
@[simp] theorem typeInfo59 : ∀ (w : World), Sem.run Star.prog (typeInfo 59) w = Result.ok Tryd.t59 w := by intro w; kernel_rfl
@[simp] theorem typeInfo6 : ∀ (w : World), Sem.run Star.prog (typeInfo 6) w = Result.ok Tryd.t6 w := by intro w; kernel_rfl
@[simp] theorem typeInfo60 : ∀ (w : World), Sem.run Star.prog (typeInfo 60) w = Result.ok Tryd.t60 w := by intro w; kernel_rfl
@[simp] theorem typeInfo61 : ∀ (w : World), Sem.run Star.prog (typeInfo 61) w = Result.ok Tryd.t61 w := by intro w; kernel_rfl
@[simp] theorem typeInfo62 : ∀ (w : World), Sem.run Star.prog (typeInfo 62) w = Result.ok Tryd.t62 w := by intro w; kernel_rfl
@[simp] theorem typeInfo63 : ∀ (w : World), Sem.run Star.prog (typeInfo 63) w = Result.ok Tryd.t63 w := by intro w; kernel_rfl
@[simp] theorem typeInfo64 : ∀ (w : World), Sem.run Star.prog (typeInfo 64) w = Result.ok Tryd.t64 w := by intro w; kernel_rfl
@[simp] theorem typeInfo65 : ∀ (w : World), Sem.run Star.prog (typeInfo 65) w = Result.ok Tryd.t65 w := by intro w; kernel_rfl
@[simp] theorem typeInfo66 : ∀ (w : World), Sem.run Star.prog (typeInfo 66) w = Result.ok Tryd.t66 w := by intro w; kernel_rfl
@[simp] theorem typeInfo67 : ∀ (w : World), Sem.run Star.prog (typeInfo 67) w = Result.ok Tryd.t67 w := by intro w; kernel_rfl
@[simp] theorem typeInfo68 : ∀ (w : World), Sem.run Star.prog (typeInfo 68) w = Result.ok Tryd.t68 w := by intro w; kernel_rfl
@[simp] theorem typeInfo69 : ∀ (w : World), Sem.run Star.prog (typeInfo 69) w = Result.ok Tryd.t69 w := by intro w; kernel_rfl
@[simp] theorem typeInfo7 : ∀ (w : World), Sem.run Star.prog (typeInfo 7) w = Result.ok Tryd.t7 w := by intro w; kernel_rfl
@[simp] theorem typeInfo70 : ∀ (w : World), Sem.run Star.prog (typeInfo 70) w = Result.ok Tryd.t70 w := by intro w; kernel_rfl
@[simp] theorem typeInfo71 : ∀ (w : World), Sem.run Star.prog (typeInfo 71) w = Result.ok Tryd.t71 w := by intro w; kernel_rfl
@[simp] theorem typeInfo72 : ∀ (w : World), Sem.run Star.prog (typeInfo 72) w = Result.ok Tryd.t72 w := by intro w; kernel_rfl
@[simp] theorem typeInfo73 : ∀ (w : World), Sem.run Star.prog (typeInfo 73) w = Result.ok Tryd.t73 w := by intro w; kernel_rfl
@[simp] theorem typeInfo74 : ∀ (w : World), Sem.run Star.prog (typeInfo 74) w = Result.ok Tryd.t74 w := by intro w; kernel_rfl
@[simp] theorem typeInfo75 : ∀ (w : World), Sem.run Star.prog (typeInfo 75) w = Result.ok Tryd.t75 w := by intro w; kernel_rfl
@[simp] theorem typeInfo76 : ∀ (w : World), Sem.run Star.prog (typeInfo 76) w = Result.ok Tryd.t76 w := by intro w; kernel_rfl
@[simp] theorem typeInfo77 : ∀ (w : World), Sem.run Star.prog (typeInfo 77) w = Result.ok Tryd.t77 w := by intro w; kernel_rfl
@[simp] theorem typeInfo78 : ∀ (w : World), Sem.run Star.prog (typeInfo 78) w = Result.ok Tryd.t78 w := by intro w; kernel_rfl
@[simp] theorem typeInfo79 : ∀ (w : World), Sem.run Star.prog (typeInfo 79) w = Result.ok Tryd.t79 w := by intro w; kernel_rfl
@[simp] theorem typeInfo8 : ∀ (w : World), Sem.run Star.prog (typeInfo 8) w = Result.ok Tryd.t8 w := by intro w; kernel_rfl
@[simp] theorem typeInfo80 : ∀ (w : World), Sem.run Star.prog (typeInfo 80) w = Result.ok Tryd.t80 w := by intro w; kernel_rfl
@[simp] theorem typeInfo81 : ∀ (w : World), Sem.run Star.prog (typeInfo 81) w = Result.ok Tryd.t81 w := by intro w; kernel_rfl
@[simp] theorem typeInfo82 : ∀ (w : World), Sem.run Star.prog (typeInfo 82) w = Result.ok Tryd.t82 w := by intro w; kernel_rfl
@[simp] theorem typeInfo83 : ∀ (w : World), Sem.run Star.prog (typeInfo 83) w = Result.ok Tryd.t83 w := by intro w; kernel_rfl
@[simp] theorem typeInfo84 : ∀ (w : World), Sem.run Star.prog (typeInfo 84) w = Result.ok Tryd.t84 w := by intro w; kernel_rfl
@[simp] theorem typeInfo85 : ∀ (w : World), Sem.run Star.prog (typeInfo 85) w = Result.ok Tryd.t85 w := by intro w; kernel_rfl
@[simp] theorem typeInfo86 : ∀ (w : World), Sem.run Star.prog (typeInfo 86) w = Result.ok Tryd.t86 w := by intro w; kernel_rfl
@[simp] theorem typeInfo87 : ∀ (w : World), Sem.run Star.prog (typeInfo 87) w = Result.ok Tryd.t87 w := by intro w; kernel_rfl
@[simp] theorem typeInfo88 : ∀ (w : World), Sem.run Star.prog (typeInfo 88) w = Result.ok Tryd.t88 w := by intro w; kernel_rfl
@[simp] theorem typeInfo89 : ∀ (w : World), Sem.run Star.prog (typeInfo 89) w = Result.ok Tryd.t89 w := by intro w; kernel_rfl
@[simp] theorem typeInfo9 : ∀ (w : World), Sem.run Star.prog (typeInfo 9) w = Result.ok Tryd.t9 w := by intro w; kernel_rfl
@[simp] theorem typeInfo90 : ∀ (w : World), Sem.run Star.prog (typeInfo 90) w = Result.ok Tryd.t90 w := by intro w; kernel_rfl
@[simp] theorem typeInfo91 : ∀ (w : World), Sem.run Star.prog (typeInfo 91) w = Result.ok Tryd.t91 w := by intro w; kernel_rfl
@[simp] theorem typeInfo92 : ∀ (w : World), Sem.run Star.prog (typeInfo 92) w = Result.ok Tryd.t92 w := by intro w; kernel_rfl
@[simp] theorem typeInfo93 : ∀ (w : World), Sem.run Star.prog (typeInfo 93) w = Result.ok Tryd.t93 w := by intro w; kernel_rfl
@[simp] theorem typeInfo94 : ∀ (w : World), Sem.run Star.prog (typeInfo 94) w = Result.ok Tryd.t94 w := by intro w; kernel_rfl
@[simp] theorem typeInfo95 : ∀ (w : World), Sem.run Star.prog (typeInfo 95) w = Result.ok Tryd.t95 w := by intro w; kernel_rfl
@[simp] theorem typeInfo96 : ∀ (w : World), Sem.run Star.prog (typeInfo 96) w = Result.ok Tryd.t96 w := by intro w; kernel_rfl
@[simp] theorem typeInfo97 : ∀ (w : World), Sem.run Star.prog (typeInfo 97) w = Result.ok Tryd.t97 w := by intro w; kernel_rfl
@[simp] theorem typeInfo98 : ∀ (w : World), Sem.run Star.prog (typeInfo 98) w = Result.ok Tryd.t98 w := by intro w; kernel_rfl
@[simp] theorem typeInfo99 : ∀ (w : World), Sem.run Star.prog (typeInfo 99) w = Result.ok Tryd.t99 w := by intro w; kernel_rfl
@[simp] theorem types_size : Star.prog.types.size = 136 := by kernel_rfl
@[simp] theorem underlying0 : Star.prog.underlying 0 = some (TypeDesc.tuple #[]) := by kernel_rfl
@[simp] theorem underlying1 : Star.prog.underlying 1 = some (TypeDesc.func #[] #[] false) := by kernel_rfl
@[simp] theorem underlying10 : Star.prog.underlying 10 = some TypeDesc.string := by kernel_rfl
@[simp] theorem underlying100 : Star.prog.underlying 100 = some (TypeDesc.func #[109] #[] false) := by kernel_rfl
@[simp] theorem underlying101 : Star.prog.underlying 101 = some (TypeDesc.func #[109] #[] false) := by kernel_rfl
@[simp] theorem underlying102 : Star.prog.underlying 102 = some (TypeDesc.func #[36, 3] #[101] false) := by kernel_rfl
@[simp] theorem underlying103 : Star.prog.underlying 103 = some (TypeDesc.func #[] #[3] false) := by kernel_rfl
@[simp] theorem underlying104 : Star.prog.underlying 104 = some (TypeDesc.func #[36, 105] #[84] false) := by kernel_rfl
@[simp] theorem underlying105 : Star.prog.underlying 105 = some (TypeDesc.func #[36] #[22] false) := by kernel_rfl
@[simp] theorem underlying106 : Star.prog.underlying 106 = some (TypeDesc.func #[3] #[3] false) := by kernel_rfl
@[simp] theorem underlying107 : Star.prog.underlying 107 = some (TypeDesc.func #[3, 3] #[3] false) := by kernel_rfl
@[simp] theorem underlying108 : Star.prog.underlying 108 = some (TypeDesc.int IntKind.u64) := by kernel_rfl
@[simp] theorem underlying109 : Star.prog.underlying 109 = some (TypeDesc.func #[36] #[4] false) := by kernel_rfl
@[simp] theorem underlying11 : Star.prog.underlying 11 = some TypeDesc.string := by kernel_rfl
@[simp] theorem underlying110 : Star.prog.underlying 110 = some (TypeDesc.func #[22] #[3] false) := by kernel_rfl
@[simp] theorem underlying111 : Star.prog.underlying 111 = some (TypeDesc.func #[114] #[] false) := by kernel_rfl
@[simp] theorem underlying112 : Star.prog.underlying 112 = some (TypeDesc.func #[114] #[] false) := by kernel_rfl
@[simp] theorem underlying113 : Star.prog.underlying 113 = some (TypeDesc.func #[36] #[112] false) := by kernel_rfl
@[simp] theorem underlying114 : Star.prog.underlying 114 = some (TypeDesc.func #[3, 5] #[4] false) := by kernel_rfl
@[simp] theorem underlying115 : Star.prog.underlying 115 = some (TypeDesc.array 5 3) := by kernel_rfl
@[simp] theorem underlying116 : Star.prog.underlying 116 = some (TypeDesc.array 5 115) := by kernel_rfl
@[simp] theorem underlying117 : Star.prog.underlying 117 = some (TypeDesc.func #[98] #[98] false) := by kernel_rfl
@[simp] theorem underlying118 : Star.prog.underlying 118 = some (TypeDesc.func #[24] #[98] false) := by kernel_rfl
@[simp] theorem underlying119 : Star.prog.underlying 119 = some (TypeDesc.func #[22] #[22] false) := by kernel_rfl
@[simp] theorem underlying12 : Star.prog.underlying 12 = some (TypeDesc.int IntKind.u64) := by kernel_rfl
@[simp] theorem underlying120 : Star.prog.underlying 120 = some (TypeDesc.func #[] #[9] false) := by kernel_rfl
@[simp] theorem underlying121 : Star.prog.underlying 121 = some (TypeDesc.struct #[{ name := "_interface", type := 17, offset := 0, embedded := false, tag := "", pkgPath := "runtime", byteOffset := 0 }, { name := "concrete", type := 17, offset := 1, embedded := false, tag := "", pkgPath := "runtime", byteOffset := 8 }, { name := "asserted", type := 17, offset := 2, embedded := false, tag := "", pkgPath := "runtime", byteOffset := 16 }, { name := "missingMethod", type := 9, offset := 3, embedded := false, tag := "", pkgPath := "runtime", byteOffset := 24 }]) := by kernel_rfl
@[simp] theorem underlying122 : Star.prog.underlying 122 = some (TypeDesc.struct #[{ name := "_interface", type := 17, offset := 0, embedded := false, tag := "", pkgPath := "runtime", byteOffset := 0 }, { name := "concrete", type := 17, offset := 1, embedded := false, tag := "", pkgPath := "runtime", byteOffset := 8 }, { name := "asserted", type := 17, offset := 2, embedded := false, tag := "", pkgPath := "runtime", byteOffset := 16 }, { name := "missingMethod", type := 9, offset := 3, embedded := false, tag := "", pkgPath := "runtime", byteOffset := 24 }]) := by kernel_rfl
@[simp] theorem underlying123 : Star.prog.underlying 123 = some (TypeDesc.array 0 16) := by kernel_rfl
@[simp] theorem underlying124 : Star.prog.underlying 124 = some (TypeDesc.struct #[{ name := "_", type := 123, offset := 0, embedded := false, tag := "", pkgPath := "runtime", byteOffset := 0 }]) := by kernel_rfl
@[simp] theorem underlying125 : Star.prog.underlying 125 = some (TypeDesc.struct #[{ name := "_", type := 123, offset := 0, embedded := false, tag := "", pkgPath := "runtime", byteOffset := 0 }]) := by kernel_rfl
@[simp] theorem underlying126 : Star.prog.underlying 126 = some (TypeDesc.int IntKind.u32) := by kernel_rfl
@[simp] theorem underlying127 : Star.prog.underlying 127 = some (TypeDesc.int IntKind.u8) := by kernel_rfl
@[simp] theorem underlying128 : Star.prog.underlying 128 = some (TypeDesc.int IntKind.u8) := by kernel_rfl
@[simp] theorem underlying129 : Star.prog.underlying 129 = some (TypeDesc.func #[135, 135] #[4] false) := by kernel_rfl
@[simp] theorem underlying13 : Star.prog.underlying 13 = some (TypeDesc.struct #[{ name := "msg", type := 9, offset := 0, embedded := false, tag := "", pkgPath := "runtime", byteOffset := 0 }, { name := "addr", type := 12, offset := 1, embedded := false, tag := "", pkgPath := "runtime", byteOffset := 16 }]) := by kernel_rfl
@[simp] theorem underlying130 : Star.prog.underlying 130 = some (TypeDesc.pointer 5) := by kernel_rfl
@[simp] theorem underlying131 : Star.prog.underlying 131 = some (TypeDesc.int IntKind.i32) := by kernel_rfl
@[simp] theorem underlying132 : Star.prog.underlying 132 = some (TypeDesc.int IntKind.i32) := by kernel_rfl
@[simp] theorem underlying133 : Star.prog.underlying 133 = some (TypeDesc.struct #[{ name := "Size_", type := 12, offset := 0, embedded := false, tag := "", pkgPath := "", byteOffset := 0 }, { name := "PtrBytes", type := 12, offset := 1, embedded := false, tag := "", pkgPath := "", byteOffset := 8 }, { name := "Hash", type := 126, offset := 2, embedded := false, tag := "", pkgPath := "", byteOffset := 16 }, { name := "TFlag", type := 127, offset := 3, embedded := false, tag := "", pkgPath := "", byteOffset := 20 }, { name := "Align_", type := 5, offset := 4, embedded := false, tag := "", pkgPath := "", byteOffset := 21 }, { name := "FieldAlign_", type := 5, offset := 5, embedded := false, tag := "", pkgPath := "", byteOffset := 22 }, { name := "Kind_", type := 128, offset := 6, embedded := false, tag := "", pkgPath := "", byteOffset := 23 }, { name := "Equal", type := 129, offset := 7, embedded := false, tag := "", pkgPath := "", byteOffset := 24 }, { name := "GCData", type := 130, offset := 8, embedded := false, tag := "", pkgPath := "", byteOffset := 32 }, { name := "Str", type := 131, offset := 9, embedded := false, tag := "", pkgPath := "", byteOffset := 40 }, { name := "PtrToThis", type := 132, offset := 10, embedded := false, tag := "", pkgPath := "", byteOffset := 44 }]) := by kernel_rfl
@[simp] theorem underlying134 : Star.prog.underlying 134 = some (TypeDesc.struct #[{ name := "Size_", type := 12, offset := 0, embedded := false, tag := "", pkgPath := "", byteOffset := 0 }, { name := "PtrBytes", type := 12, offset := 1, embedded := false, tag := "", pkgPath := "", byteOffset := 8 }, { name := "Hash", type := 126, offset := 2, embedded := false, tag := "", pkgPath := "", byteOffset := 16 }, { name := "TFlag", type := 127, offset := 3, embedded := false, tag := "", pkgPath := "", byteOffset := 20 }, { name := "Align_", type := 5, offset := 4, embedded := false, tag := "", pkgPath := "", byteOffset := 21 }, { name := "FieldAlign_", type := 5, offset := 5, embedded := false, tag := "", pkgPath := "", byteOffset := 22 }, { name := "Kind_", type := 128, offset := 6, embedded := false, tag := "", pkgPath := "", byteOffset := 23 }, { name := "Equal", type := 129, offset := 7, embedded := false, tag := "", pkgPath := "", byteOffset := 24 }, { name := "GCData", type := 130, offset := 8, embedded := false, tag := "", pkgPath := "", byteOffset := 32 }, { name := "Str", type := 131, offset := 9, embedded := false, tag := "", pkgPath := "", byteOffset := 40 }, { name := "PtrToThis", type := 132, offset := 10, embedded := false, tag := "", pkgPath := "", byteOffset := 44 }]) := by kernel_rfl
@[simp] theorem underlying135 : Star.prog.underlying 135 = some TypeDesc.unsafePointer := by kernel_rfl
@[simp] theorem underlying14 : Star.prog.underlying 14 = some (TypeDesc.struct #[{ name := "msg", type := 9, offset := 0, embedded := false, tag := "", pkgPath := "runtime", byteOffset := 0 }, { name := "addr", type := 12, offset := 1, embedded := false, tag := "", pkgPath := "runtime", byteOffset := 16 }]) := by kernel_rfl
@[simp] theorem underlying15 : Star.prog.underlying 15 = some (TypeDesc.pointer 122) := by kernel_rfl
@[simp] theorem underlying16 : Star.prog.underlying 16 = some (TypeDesc.pointer 125) := by kernel_rfl
@[simp] theorem underlying17 : Star.prog.underlying 17 = some (TypeDesc.pointer 134) := by kernel_rfl
@[simp] theorem underlying18 : Star.prog.underlying 18 = some (TypeDesc.struct #[{ name := "typ", type := 17, offset := 0, embedded := false, tag := "", pkgPath := "internal/runtime/maps", byteOffset := 0 }]) := by kernel_rfl
@[simp] theorem underlying19 : Star.prog.underlying 19 = some (TypeDesc.struct #[{ name := "typ", type := 17, offset := 0, embedded := false, tag := "", pkgPath := "internal/runtime/maps", byteOffset := 0 }]) := by kernel_rfl
@[simp] theorem underlying2 : Star.prog.underlying 2 = some (TypeDesc.int IntKind.i64) := by kernel_rfl
@[simp] theorem underlying20 : Star.prog.underlying 20 = some (TypeDesc.interface #[]) := by kernel_rfl
@[simp] theorem underlying21 : Star.prog.underlying 21 = some (TypeDesc.int IntKind.i32) := by kernel_rfl
@[simp] theorem underlying22 : Star.prog.underlying 22 = some (TypeDesc.int IntKind.u64) := by kernel_rfl
@[simp] theorem underlying23 : Star.prog.underlying 23 = some (TypeDesc.array 25 22) := by kernel_rfl
@[simp] theorem underlying24 : Star.prog.underlying 24 = some (TypeDesc.array 25 22) := by kernel_rfl
@[simp] theorem underlying25 : Star.prog.underlying 25 = some (TypeDesc.struct #[{ name := "Rate", type := 3, offset := 0, embedded := false, tag := "", pkgPath := "", byteOffset := 0 }, { name := "Suffix", type := 3, offset := 1, embedded := false, tag := "", pkgPath := "", byteOffset := 8 }, { name := "A", type := 24, offset := 2, embedded := false, tag := "", pkgPath := "", byteOffset := 16 }, { name := "At", type := 3, offset := 27, embedded := false, tag := "", pkgPath := "", byteOffset := 216 }, { name := "Reading", type := 4, offset := 28, embedded := false, tag := "", pkgPath := "", byteOffset := 224 }]) := by kernel_rfl
@[simp] theorem underlying26 : Star.prog.underlying 26 = some (TypeDesc.struct #[{ name := "Rate", type := 3, offset := 0, embedded := false, tag := "", pkgPath := "", byteOffset := 0 }, { name := "Suffix", type := 3, offset := 1, embedded := false, tag := "", pkgPath := "", byteOffset := 8 }, { name := "A", type := 24, offset := 2, embedded := false, tag := "", pkgPath := "", byteOffset := 16 }, { name := "At", type := 3, offset := 27, embedded := false, tag := "", pkgPath := "", byteOffset := 216 }, { name := "Reading", type := 4, offset := 28, embedded := false, tag := "", pkgPath := "", byteOffset := 224 }]) := by kernel_rfl
@[simp] theorem underlying27 : Star.prog.underlying 27 = some (TypeDesc.slice 38) := by kernel_rfl
@[simp] theorem underlying28 : Star.prog.underlying 28 = some (TypeDesc.func #[] #[4] false) := by kernel_rfl
@[simp] theorem underlying29 : Star.prog.underlying 29 = some (TypeDesc.func #[27] #[4] false) := by kernel_rfl
@[simp] theorem underlying3 : Star.prog.underlying 3 = some (TypeDesc.int IntKind.i64) := by kernel_rfl
@[simp] theorem underlying30 : Star.prog.underlying 30 = some (TypeDesc.pointer 62) := by kernel_rfl
@[simp] theorem underlying31 : Star.prog.underlying 31 = some (TypeDesc.int IntKind.i64) := by kernel_rfl
@[simp] theorem underlying32 : Star.prog.underlying 32 = some (TypeDesc.tuple #[30, 31]) := by kernel_rfl
@[simp] theorem underlying33 : Star.prog.underlying 33 = some (TypeDesc.func #[3, 3, 24, 3, 4] #[30, 31] false) := by kernel_rfl
@[simp] theorem underlying34 : Star.prog.underlying 34 = some (TypeDesc.func #[26] #[4] false) := by kernel_rfl
@[simp] theorem underlying35 : Star.prog.underlying 35 = some (TypeDesc.func #[30, 26] #[4] false) := by kernel_rfl
@[simp] theorem underlying36 : Star.prog.underlying 36 = some (TypeDesc.slice 5) := by kernel_rfl
@[simp] theorem underlying37 : Star.prog.underlying 37 = some (TypeDesc.struct #[{ name := "Kind", type := 5, offset := 0, embedded := false, tag := "", pkgPath := "", byteOffset := 0 }, { name := "B", type := 36, offset := 1, embedded := false, tag := "", pkgPath := "", byteOffset := 8 }, { name := "N", type := 3, offset := 2, embedded := false, tag := "", pkgPath := "", byteOffset := 32 }]) := by kernel_rfl
@[simp] theorem underlying38 : Star.prog.underlying 38 = some (TypeDesc.struct #[{ name := "Kind", type := 5, offset := 0, embedded := false, tag := "", pkgPath := "", byteOffset := 0 }, { name := "B", type := 36, offset := 1, embedded := false, tag := "", pkgPath := "", byteOffset := 8 }, { name := "N", type := 3, offset := 2, embedded := false, tag := "", pkgPath := "", byteOffset := 32 }]) := by kernel_rfl
@[simp] theorem underlying39 : Star.prog.underlying 39 = some (TypeDesc.tuple #[3, 31]) := by kernel_rfl
@[simp] theorem underlying4 : Star.prog.underlying 4 = some TypeDesc.bool := by kernel_rfl
@[simp] theorem underlying40 : Star.prog.underlying 40 = some (TypeDesc.func #[36] #[3, 31] false) := by kernel_rfl
@[simp] theorem underlying41 : Star.prog.underlying 41 = some (TypeDesc.func #[26, 36] #[26] false) := by kernel_rfl
@[simp] theorem underlying42 : Star.prog.underlying 42 = some (TypeDesc.tuple #[36, 31]) := by kernel_rfl
@[simp] theorem underlying43 : Star.prog.underlying 43 = some (TypeDesc.func #[3] #[36, 31] false) := by kernel_rfl
@[simp] theorem underlying44 : Star.prog.underlying 44 = some (TypeDesc.struct #[{ name := "S", type := 26, offset := 0, embedded := false, tag := "", pkgPath := "", byteOffset := 0 }, { name := "B", type := 36, offset := 29, embedded := false, tag := "", pkgPath := "", byteOffset := 232 }]) := by kernel_rfl
@[simp] theorem underlying45 : Star.prog.underlying 45 = some (TypeDesc.struct #[{ name := "S", type := 26, offset := 0, embedded := false, tag := "", pkgPath := "", byteOffset := 0 }, { name := "B", type := 36, offset := 29, embedded := false, tag := "", pkgPath := "", byteOffset := 232 }]) := by kernel_rfl
@[simp] theorem underlying46 : Star.prog.underlying 46 = some (TypeDesc.func #[26, 3] #[45] false) := by kernel_rfl
@[simp] theorem underlying47 : Star.prog.underlying 47 = some (TypeDesc.func #[36, 36] #[4] false) := by kernel_rfl
@[simp] theorem underlying48 : Star.prog.underlying 48 = some (TypeDesc.func #[] #[30] false) := by kernel_rfl
@[simp] theorem underlying49 : Star.prog.underlying 49 = some (TypeDesc.func #[26, 27] #[4] false) := by kernel_rfl
@[simp] theorem underlying5 : Star.prog.underlying 5 = some (TypeDesc.int IntKind.u8) := by kernel_rfl
@[simp] theorem underlying50 : Star.prog.underlying 50 = some (TypeDesc.slice 3) := by kernel_rfl
@[simp] theorem underlying51 : Star.prog.underlying 51 = some (TypeDesc.func #[3, 3] #[30, 31] false) := by kernel_rfl
@[simp] theorem underlying52 : Star.prog.underlying 52 = some (TypeDesc.func #[3, 3, 36, 3] #[36] false) := by kernel_rfl
@[simp] theorem underlying53 : Star.prog.underlying 53 = some (TypeDesc.func #[5, 36, 36] #[4] false) := by kernel_rfl
@[simp] theorem underlying54 : Star.prog.underlying 54 = some (TypeDesc.func #[3, 3] #[4] false) := by kernel_rfl
@[simp] theorem underlying55 : Star.prog.underlying 55 = some (TypeDesc.array 2 5) := by kernel_rfl
@[simp] theorem underlying56 : Star.prog.underlying 56 = some (TypeDesc.tuple #[24, 3, 4]) := by kernel_rfl
@[simp] theorem underlying57 : Star.prog.underlying 57 = some (TypeDesc.func #[] #[24, 3, 4] false) := by kernel_rfl
@[simp] theorem underlying58 : Star.prog.underlying 58 = some (TypeDesc.func #[26, 36, 55] #[4] false) := by kernel_rfl
@[simp] theorem underlying59 : Star.prog.underlying 59 = some (TypeDesc.func #[3] #[4] false) := by kernel_rfl
@[simp] theorem underlying6 : Star.prog.underlying 6 = some (TypeDesc.int IntKind.u8) := by kernel_rfl
@[simp] theorem underlying60 : Star.prog.underlying 60 = some (TypeDesc.func #[3, 3, 4] #[4] false) := by kernel_rfl
@[simp] theorem underlying61 : Star.prog.underlying 61 = some (TypeDesc.struct #[{ name := "rate", type := 3, offset := 0, embedded := false, tag := "", pkgPath := "cribble/sponge", byteOffset := 0 }, { name := "suffix", type := 5, offset := 1, embedded := false, tag := "", pkgPath := "cribble/sponge", byteOffset := 8 }, { name := "a", type := 24, offset := 2, embedded := false, tag := "", pkgPath := "cribble/sponge", byteOffset := 16 }, { name := "at", type := 3, offset := 27, embedded := false, tag := "", pkgPath := "cribble/sponge", byteOffset := 216 }, { name := "reading", type := 4, offset := 28, embedded := false, tag := "", pkgPath := "cribble/sponge", byteOffset := 224 }]) := by kernel_rfl
@[simp] theorem underlying62 : Star.prog.underlying 62 = some (TypeDesc.struct #[{ name := "rate", type := 3, offset := 0, embedded := false, tag := "", pkgPath := "cribble/sponge", byteOffset := 0 }, { name := "suffix", type := 5, offset := 1, embedded := false, tag := "", pkgPath := "cribble/sponge", byteOffset := 8 }, { name := "a", type := 24, offset := 2, embedded := false, tag := "", pkgPath := "cribble/sponge", byteOffset := 16 }, { name := "at", type := 3, offset := 27, embedded := false, tag := "", pkgPath := "cribble/sponge", byteOffset := 216 }, { name := "reading", type := 4, offset := 28, embedded := false, tag := "", pkgPath := "cribble/sponge", byteOffset := 224 }]) := by kernel_rfl
@[simp] theorem underlying63 : Star.prog.underlying 63 = some (TypeDesc.chan ChanDir.both 36) := by kernel_rfl
@[simp] theorem underlying64 : Star.prog.underlying 64 = some (TypeDesc.chan ChanDir.both 77) := by kernel_rfl
@[simp] theorem underlying65 : Star.prog.underlying 65 = some (TypeDesc.func #[36, 3, 3, 72, 73] #[] false) := by kernel_rfl
@[simp] theorem underlying66 : Star.prog.underlying 66 = some (TypeDesc.func #[74, 75] #[] false) := by kernel_rfl
@[simp] theorem underlying67 : Star.prog.underlying 67 = some (TypeDesc.func #[24, 3, 36] #[24] false) := by kernel_rfl
@[simp] theorem underlying68 : Star.prog.underlying 68 = some (TypeDesc.func #[24] #[24] false) := by kernel_rfl
@[simp] theorem underlying69 : Star.prog.underlying 69 = some (TypeDesc.func #[3] #[36] false) := by kernel_rfl
@[simp] theorem underlying7 : Star.prog.underlying 7 = some (TypeDesc.struct #[{ name := "x", type := 2, offset := 0, embedded := false, tag := "", pkgPath := "runtime", byteOffset := 0 }, { name := "y", type := 3, offset := 1, embedded := false, tag := "", pkgPath := "runtime", byteOffset := 8 }, { name := "signed", type := 4, offset := 2, embedded := false, tag := "", pkgPath := "runtime", byteOffset := 16 }, { name := "code", type := 6, offset := 3, embedded := false, tag := "", pkgPath := "runtime", byteOffset := 17 }]) := by kernel_rfl
@[simp] theorem underlying70 : Star.prog.underlying 70 = some (TypeDesc.func #[24, 3, 3] #[36] false) := by kernel_rfl
@[simp] theorem underlying71 : Star.prog.underlying 71 = some (TypeDesc.func #[50, 3] #[4] false) := by kernel_rfl
@[simp] theorem underlying72 : Star.prog.underlying 72 = some (TypeDesc.chan ChanDir.send 36) := by kernel_rfl
@[simp] theorem underlying73 : Star.prog.underlying 73 = some (TypeDesc.chan ChanDir.send 77) := by kernel_rfl
@[simp] theorem underlying74 : Star.prog.underlying 74 = some (TypeDesc.chan ChanDir.recv 36) := by kernel_rfl
@[simp] theorem underlying75 : Star.prog.underlying 75 = some (TypeDesc.chan ChanDir.recv 77) := by kernel_rfl
@[simp] theorem underlying76 : Star.prog.underlying 76 = some (TypeDesc.func #[36] #[] false) := by kernel_rfl
@[simp] theorem underlying77 : Star.prog.underlying 77 = some (TypeDesc.struct #[]) := by kernel_rfl
@[simp] theorem underlying78 : Star.prog.underlying 78 = some (TypeDesc.func #[24] #[36] false) := by kernel_rfl
@[simp] theorem underlying79 : Star.prog.underlying 79 = some (TypeDesc.func #[5, 5] #[5] false) := by kernel_rfl
@[simp] theorem underlying8 : Star.prog.underlying 8 = some (TypeDesc.struct #[{ name := "x", type := 2, offset := 0, embedded := false, tag := "", pkgPath := "runtime", byteOffset := 0 }, { name := "y", type := 3, offset := 1, embedded := false, tag := "", pkgPath := "runtime", byteOffset := 8 }, { name := "signed", type := 4, offset := 2, embedded := false, tag := "", pkgPath := "runtime", byteOffset := 16 }, { name := "code", type := 6, offset := 3, embedded := false, tag := "", pkgPath := "runtime", byteOffset := 17 }]) := by kernel_rfl
@[simp] theorem underlying80 : Star.prog.underlying 80 = some (TypeDesc.func #[36] #[24] false) := by kernel_rfl
@[simp] theorem underlying81 : Star.prog.underlying 81 = some (TypeDesc.func #[24, 3, 3] #[24] false) := by kernel_rfl
@[simp] theorem underlying82 : Star.prog.underlying 82 = some (TypeDesc.func #[50, 3] #[3] false) := by kernel_rfl
@[simp] theorem underlying83 : Star.prog.underlying 83 = some (TypeDesc.func #[22, 3] #[36] false) := by kernel_rfl
@[simp] theorem underlying84 : Star.prog.underlying 84 = some (TypeDesc.slice 22) := by kernel_rfl
@[simp] theorem underlying85 : Star.prog.underlying 85 = some (TypeDesc.func #[36] #[84] false) := by kernel_rfl
@[simp] theorem underlying86 : Star.prog.underlying 86 = some (TypeDesc.func #[24, 3] #[24] false) := by kernel_rfl
@[simp] theorem underlying87 : Star.prog.underlying 87 = some (TypeDesc.tuple #[3, 3]) := by kernel_rfl
@[simp] theorem underlying88 : Star.prog.underlying 88 = some (TypeDesc.func #[3, 3] #[3, 3] false) := by kernel_rfl
@[simp] theorem underlying89 : Star.prog.underlying 89 = some (TypeDesc.array 200 5) := by kernel_rfl
@[simp] theorem underlying9 : Star.prog.underlying 9 = some TypeDesc.string := by kernel_rfl
@[simp] theorem underlying90 : Star.prog.underlying 90 = some (TypeDesc.func #[36, 36] #[36] false) := by kernel_rfl
@[simp] theorem underlying91 : Star.prog.underlying 91 = some (TypeDesc.func #[89] #[24] false) := by kernel_rfl
@[simp] theorem underlying92 : Star.prog.underlying 92 = some (TypeDesc.func #[36] #[36] false) := by kernel_rfl
@[simp] theorem underlying93 : Star.prog.underlying 93 = some (TypeDesc.func #[3] #[22] false) := by kernel_rfl
@[simp] theorem underlying94 : Star.prog.underlying 94 = some (TypeDesc.func #[84] #[36] true) := by kernel_rfl
@[simp] theorem underlying95 : Star.prog.underlying 95 = some (TypeDesc.array 25 3) := by kernel_rfl
@[simp] theorem underlying96 : Star.prog.underlying 96 = some (TypeDesc.func #[] #[95] false) := by kernel_rfl
@[simp] theorem underlying97 : Star.prog.underlying 97 = some (TypeDesc.func #[22, 3] #[22] false) := by kernel_rfl
@[simp] theorem underlying98 : Star.prog.underlying 98 = some (TypeDesc.array 5 22) := by kernel_rfl
@[simp] theorem underlying99 : Star.prog.underlying 99 = some (TypeDesc.func #[84] #[36] false) := by kernel_rfl
@[simp] theorem zeroValue0 : ∀ (w : World), Sem.run Star.prog (zeroValue 0) w = Result.ok (Value.tuple #[]) w := by intro w; kernel_rfl
@[simp] theorem zeroValue1 : ∀ (w : World), Sem.run Star.prog (zeroValue 1) w = Result.ok Value.nilFunc w := by intro w; kernel_rfl
@[simp] theorem zeroValue10 : ∀ (w : World), Sem.run Star.prog (zeroValue 10) w = Result.ok (Value.string { data := #[] }) w := by intro w; kernel_rfl
@[simp] theorem zeroValue100 : ∀ (w : World), Sem.run Star.prog (zeroValue 100) w = Result.ok Value.nilFunc w := by intro w; kernel_rfl
@[simp] theorem zeroValue101 : ∀ (w : World), Sem.run Star.prog (zeroValue 101) w = Result.ok Value.nilFunc w := by intro w; kernel_rfl
@[simp] theorem zeroValue102 : ∀ (w : World), Sem.run Star.prog (zeroValue 102) w = Result.ok Value.nilFunc w := by intro w; kernel_rfl
@[simp] theorem zeroValue103 : ∀ (w : World), Sem.run Star.prog (zeroValue 103) w = Result.ok Value.nilFunc w := by intro w; kernel_rfl
@[simp] theorem zeroValue104 : ∀ (w : World), Sem.run Star.prog (zeroValue 104) w = Result.ok Value.nilFunc w := by intro w; kernel_rfl
@[simp] theorem zeroValue105 : ∀ (w : World), Sem.run Star.prog (zeroValue 105) w = Result.ok Value.nilFunc w := by intro w; kernel_rfl
@[simp] theorem zeroValue106 : ∀ (w : World), Sem.run Star.prog (zeroValue 106) w = Result.ok Value.nilFunc w := by intro w; kernel_rfl
@[simp] theorem zeroValue107 : ∀ (w : World), Sem.run Star.prog (zeroValue 107) w = Result.ok Value.nilFunc w := by intro w; kernel_rfl
@[simp] theorem zeroValue108 : ∀ (w : World), Sem.run Star.prog (zeroValue 108) w = Result.ok (Value.int IntKind.u64 0) w := by intro w; kernel_rfl
@[simp] theorem zeroValue109 : ∀ (w : World), Sem.run Star.prog (zeroValue 109) w = Result.ok Value.nilFunc w := by intro w; kernel_rfl
@[simp] theorem zeroValue11 : ∀ (w : World), Sem.run Star.prog (zeroValue 11) w = Result.ok (Value.string { data := #[] }) w := by intro w; kernel_rfl
@[simp] theorem zeroValue110 : ∀ (w : World), Sem.run Star.prog (zeroValue 110) w = Result.ok Value.nilFunc w := by intro w; kernel_rfl
@[simp] theorem zeroValue111 : ∀ (w : World), Sem.run Star.prog (zeroValue 111) w = Result.ok Value.nilFunc w := by intro w; kernel_rfl
@[simp] theorem zeroValue112 : ∀ (w : World), Sem.run Star.prog (zeroValue 112) w = Result.ok Value.nilFunc w := by intro w; kernel_rfl
@[simp] theorem zeroValue113 : ∀ (w : World), Sem.run Star.prog (zeroValue 113) w = Result.ok Value.nilFunc w := by intro w; kernel_rfl
@[simp] theorem zeroValue114 : ∀ (w : World), Sem.run Star.prog (zeroValue 114) w = Result.ok Value.nilFunc w := by intro w; kernel_rfl
@[simp] theorem zeroValue115 : ∀ (w : World), Sem.run Star.prog (zeroValue 115) w = Result.ok (Value.agg #[Value.int IntKind.i64 0, Value.int IntKind.i64 0, Value.int IntKind.i64 0, Value.int IntKind.i64 0, Value.int IntKind.i64 0]) w := by intro w; kernel_rfl
@[simp] theorem zeroValue116 : ∀ (w : World), Sem.run Star.prog (zeroValue 116) w = Result.ok (Value.agg #[Value.int IntKind.i64 0, Value.int IntKind.i64 0, Value.int IntKind.i64 0, Value.int IntKind.i64 0, Value.int IntKind.i64 0, Value.int IntKind.i64 0, Value.int IntKind.i64 0, Value.int IntKind.i64 0, Value.int IntKind.i64 0, Value.int IntKind.i64 0, Value.int IntKind.i64 0, Value.int IntKind.i64 0, Value.int IntKind.i64 0, Value.int IntKind.i64 0, Value.int IntKind.i64 0, Value.int IntKind.i64 0, Value.int IntKind.i64 0, Value.int IntKind.i64 0, Value.int IntKind.i64 0, Value.int IntKind.i64 0, Value.int IntKind.i64 0, Value.int IntKind.i64 0, Value.int IntKind.i64 0, Value.int IntKind.i64 0, Value.int IntKind.i64 0]) w := by intro w; kernel_rfl
@[simp] theorem zeroValue117 : ∀ (w : World), Sem.run Star.prog (zeroValue 117) w = Result.ok Value.nilFunc w := by intro w; kernel_rfl
@[simp] theorem zeroValue118 : ∀ (w : World), Sem.run Star.prog (zeroValue 118) w = Result.ok Value.nilFunc w := by intro w; kernel_rfl
@[simp] theorem zeroValue119 : ∀ (w : World), Sem.run Star.prog (zeroValue 119) w = Result.ok Value.nilFunc w := by intro w; kernel_rfl
@[simp] theorem zeroValue12 : ∀ (w : World), Sem.run Star.prog (zeroValue 12) w = Result.ok (Value.int IntKind.u64 0) w := by intro w; kernel_rfl
@[simp] theorem zeroValue120 : ∀ (w : World), Sem.run Star.prog (zeroValue 120) w = Result.ok Value.nilFunc w := by intro w; kernel_rfl
@[simp] theorem zeroValue121 : ∀ (w : World), Sem.run Star.prog (zeroValue 121) w = Result.ok (Value.agg #[Value.pointer none, Value.pointer none, Value.pointer none, Value.string { data := #[] }]) w := by intro w; kernel_rfl
@[simp] theorem zeroValue122 : ∀ (w : World), Sem.run Star.prog (zeroValue 122) w = Result.ok (Value.agg #[Value.pointer none, Value.pointer none, Value.pointer none, Value.string { data := #[] }]) w := by intro w; kernel_rfl
@[simp] theorem zeroValue123 : ∀ (w : World), Sem.run Star.prog (zeroValue 123) w = Result.ok (Value.agg #[]) w := by intro w; kernel_rfl
@[simp] theorem zeroValue124 : ∀ (w : World), Sem.run Star.prog (zeroValue 124) w = Result.ok (Value.agg #[]) w := by intro w; kernel_rfl
@[simp] theorem zeroValue125 : ∀ (w : World), Sem.run Star.prog (zeroValue 125) w = Result.ok (Value.agg #[]) w := by intro w; kernel_rfl
@[simp] theorem zeroValue126 : ∀ (w : World), Sem.run Star.prog (zeroValue 126) w = Result.ok (Value.int IntKind.u32 0) w := by intro w; kernel_rfl
@[simp] theorem zeroValue127 : ∀ (w : World), Sem.run Star.prog (zeroValue 127) w = Result.ok (Value.int IntKind.u8 0) w := by intro w; kernel_rfl
@[simp] theorem zeroValue128 : ∀ (w : World), Sem.run Star.prog (zeroValue 128) w = Result.ok (Value.int IntKind.u8 0) w := by intro w; kernel_rfl
@[simp] theorem zeroValue129 : ∀ (w : World), Sem.run Star.prog (zeroValue 129) w = Result.ok Value.nilFunc w := by intro w; kernel_rfl
@[simp] theorem zeroValue13 : ∀ (w : World), Sem.run Star.prog (zeroValue 13) w = Result.ok (Value.agg #[Value.string { data := #[] }, Value.int IntKind.u64 0]) w := by intro w; kernel_rfl
@[simp] theorem zeroValue130 : ∀ (w : World), Sem.run Star.prog (zeroValue 130) w = Result.ok (Value.pointer none) w := by intro w; kernel_rfl
@[simp] theorem zeroValue131 : ∀ (w : World), Sem.run Star.prog (zeroValue 131) w = Result.ok (Value.int IntKind.i32 0) w := by intro w; kernel_rfl
@[simp] theorem zeroValue132 : ∀ (w : World), Sem.run Star.prog (zeroValue 132) w = Result.ok (Value.int IntKind.i32 0) w := by intro w; kernel_rfl
@[simp] theorem zeroValue133 : ∀ (w : World), Sem.run Star.prog (zeroValue 133) w = Result.ok (Value.agg #[Value.int IntKind.u64 0, Value.int IntKind.u64 0, Value.int IntKind.u32 0, Value.int IntKind.u8 0, Value.int IntKind.u8 0, Value.int IntKind.u8 0, Value.int IntKind.u8 0, Value.nilFunc, Value.pointer none, Value.int IntKind.i32 0, Value.int IntKind.i32 0]) w := by intro w; kernel_rfl
@[simp] theorem zeroValue134 : ∀ (w : World), Sem.run Star.prog (zeroValue 134) w = Result.ok (Value.agg #[Value.int IntKind.u64 0, Value.int IntKind.u64 0, Value.int IntKind.u32 0, Value.int IntKind.u8 0, Value.int IntKind.u8 0, Value.int IntKind.u8 0, Value.int IntKind.u8 0, Value.nilFunc, Value.pointer none, Value.int IntKind.i32 0, Value.int IntKind.i32 0]) w := by intro w; kernel_rfl
@[simp] theorem zeroValue135 : ∀ (w : World), Sem.run Star.prog (zeroValue 135) w = Result.ok (Value.pointer none) w := by intro w; kernel_rfl
@[simp] theorem zeroValue14 : ∀ (w : World), Sem.run Star.prog (zeroValue 14) w = Result.ok (Value.agg #[Value.string { data := #[] }, Value.int IntKind.u64 0]) w := by intro w; kernel_rfl
@[simp] theorem zeroValue15 : ∀ (w : World), Sem.run Star.prog (zeroValue 15) w = Result.ok (Value.pointer none) w := by intro w; kernel_rfl
@[simp] theorem zeroValue16 : ∀ (w : World), Sem.run Star.prog (zeroValue 16) w = Result.ok (Value.pointer none) w := by intro w; kernel_rfl
@[simp] theorem zeroValue17 : ∀ (w : World), Sem.run Star.prog (zeroValue 17) w = Result.ok (Value.pointer none) w := by intro w; kernel_rfl
@[simp] theorem zeroValue18 : ∀ (w : World), Sem.run Star.prog (zeroValue 18) w = Result.ok (Value.agg #[Value.pointer none]) w := by intro w; kernel_rfl
@[simp] theorem zeroValue19 : ∀ (w : World), Sem.run Star.prog (zeroValue 19) w = Result.ok (Value.agg #[Value.pointer none]) w := by intro w; kernel_rfl
@[simp] theorem zeroValue2 : ∀ (w : World), Sem.run Star.prog (zeroValue 2) w = Result.ok (Value.int IntKind.i64 0) w := by intro w; kernel_rfl
@[simp] theorem zeroValue20 : ∀ (w : World), Sem.run Star.prog (zeroValue 20) w = Result.ok Value.nilIface w := by intro w; kernel_rfl
@[simp] theorem zeroValue21 : ∀ (w : World), Sem.run Star.prog (zeroValue 21) w = Result.ok (Value.int IntKind.i32 0) w := by intro w; kernel_rfl
@[simp] theorem zeroValue22 : ∀ (w : World), Sem.run Star.prog (zeroValue 22) w = Result.ok (Value.int IntKind.u64 0) w := by intro w; kernel_rfl
@[simp] theorem zeroValue23 : ∀ (w : World), Sem.run Star.prog (zeroValue 23) w = Result.ok (Value.agg #[Value.int IntKind.u64 0, Value.int IntKind.u64 0, Value.int IntKind.u64 0, Value.int IntKind.u64 0, Value.int IntKind.u64 0, Value.int IntKind.u64 0, Value.int IntKind.u64 0, Value.int IntKind.u64 0, Value.int IntKind.u64 0, Value.int IntKind.u64 0, Value.int IntKind.u64 0, Value.int IntKind.u64 0, Value.int IntKind.u64 0, Value.int IntKind.u64 0, Value.int IntKind.u64 0, Value.int IntKind.u64 0, Value.int IntKind.u64 0, Value.int IntKind.u64 0, Value.int IntKind.u64 0, Value.int IntKind.u64 0, Value.int IntKind.u64 0, Value.int IntKind.u64 0, Value.int IntKind.u64 0, Value.int IntKind.u64 0, Value.int IntKind.u64 0]) w := by intro w; kernel_rfl
@[simp] theorem zeroValue24 : ∀ (w : World), Sem.run Star.prog (zeroValue 24) w = Result.ok (Value.agg #[Value.int IntKind.u64 0, Value.int IntKind.u64 0, Value.int IntKind.u64 0, Value.int IntKind.u64 0, Value.int IntKind.u64 0, Value.int IntKind.u64 0, Value.int IntKind.u64 0, Value.int IntKind.u64 0, Value.int IntKind.u64 0, Value.int IntKind.u64 0, Value.int IntKind.u64 0, Value.int IntKind.u64 0, Value.int IntKind.u64 0, Value.int IntKind.u64 0, Value.int IntKind.u64 0, Value.int IntKind.u64 0, Value.int IntKind.u64 0, Value.int IntKind.u64 0, Value.int IntKind.u64 0, Value.int IntKind.u64 0, Value.int IntKind.u64 0, Value.int IntKind.u64 0, Value.int IntKind.u64 0, Value.int IntKind.u64 0, Value.int IntKind.u64 0]) w := by intro w; kernel_rfl
@[simp] theorem zeroValue25 : ∀ (w : World), Sem.run Star.prog (zeroValue 25) w = Result.ok (Value.agg #[Value.int IntKind.i64 0, Value.int IntKind.i64 0, Value.int IntKind.u64 0, Value.int IntKind.u64 0, Value.int IntKind.u64 0, Value.int IntKind.u64 0, Value.int IntKind.u64 0, Value.int IntKind.u64 0, Value.int IntKind.u64 0, Value.int IntKind.u64 0, Value.int IntKind.u64 0, Value.int IntKind.u64 0, Value.int IntKind.u64 0, Value.int IntKind.u64 0, Value.int IntKind.u64 0, Value.int IntKind.u64 0, Value.int IntKind.u64 0, Value.int IntKind.u64 0, Value.int IntKind.u64 0, Value.int IntKind.u64 0, Value.int IntKind.u64 0, Value.int IntKind.u64 0, Value.int IntKind.u64 0, Value.int IntKind.u64 0, Value.int IntKind.u64 0, Value.int IntKind.u64 0, Value.int IntKind.u64 0, Value.int IntKind.i64 0, Value.bool false]) w := by intro w; kernel_rfl
@[simp] theorem zeroValue26 : ∀ (w : World), Sem.run Star.prog (zeroValue 26) w = Result.ok (Value.agg #[Value.int IntKind.i64 0, Value.int IntKind.i64 0, Value.int IntKind.u64 0, Value.int IntKind.u64 0, Value.int IntKind.u64 0, Value.int IntKind.u64 0, Value.int IntKind.u64 0, Value.int IntKind.u64 0, Value.int IntKind.u64 0, Value.int IntKind.u64 0, Value.int IntKind.u64 0, Value.int IntKind.u64 0, Value.int IntKind.u64 0, Value.int IntKind.u64 0, Value.int IntKind.u64 0, Value.int IntKind.u64 0, Value.int IntKind.u64 0, Value.int IntKind.u64 0, Value.int IntKind.u64 0, Value.int IntKind.u64 0, Value.int IntKind.u64 0, Value.int IntKind.u64 0, Value.int IntKind.u64 0, Value.int IntKind.u64 0, Value.int IntKind.u64 0, Value.int IntKind.u64 0, Value.int IntKind.u64 0, Value.int IntKind.i64 0, Value.bool false]) w := by intro w; kernel_rfl
@[simp] theorem zeroValue27 : ∀ (w : World), Sem.run Star.prog (zeroValue 27) w = Result.ok (Value.slice none 0 0) w := by intro w; kernel_rfl
@[simp] theorem zeroValue28 : ∀ (w : World), Sem.run Star.prog (zeroValue 28) w = Result.ok Value.nilFunc w := by intro w; kernel_rfl
@[simp] theorem zeroValue29 : ∀ (w : World), Sem.run Star.prog (zeroValue 29) w = Result.ok Value.nilFunc w := by intro w; kernel_rfl
@[simp] theorem zeroValue3 : ∀ (w : World), Sem.run Star.prog (zeroValue 3) w = Result.ok (Value.int IntKind.i64 0) w := by intro w; kernel_rfl
@[simp] theorem zeroValue30 : ∀ (w : World), Sem.run Star.prog (zeroValue 30) w = Result.ok (Value.pointer none) w := by intro w; kernel_rfl
@[simp] theorem zeroValue31 : ∀ (w : World), Sem.run Star.prog (zeroValue 31) w = Result.ok (Value.int IntKind.i64 0) w := by intro w; kernel_rfl
@[simp] theorem zeroValue32 : ∀ (w : World), Sem.run Star.prog (zeroValue 32) w = Result.ok (Value.tuple #[Value.pointer none, Value.int IntKind.i64 0]) w := by intro w; kernel_rfl
@[simp] theorem zeroValue33 : ∀ (w : World), Sem.run Star.prog (zeroValue 33) w = Result.ok Value.nilFunc w := by intro w; kernel_rfl
@[simp] theorem zeroValue34 : ∀ (w : World), Sem.run Star.prog (zeroValue 34) w = Result.ok Value.nilFunc w := by intro w; kernel_rfl
@[simp] theorem zeroValue35 : ∀ (w : World), Sem.run Star.prog (zeroValue 35) w = Result.ok Value.nilFunc w := by intro w; kernel_rfl
@[simp] theorem zeroValue36 : ∀ (w : World), Sem.run Star.prog (zeroValue 36) w = Result.ok (Value.slice none 0 0) w := by intro w; kernel_rfl
@[simp] theorem zeroValue37 : ∀ (w : World), Sem.run Star.prog (zeroValue 37) w = Result.ok (Value.agg #[Value.int IntKind.u8 0, Value.slice none 0 0, Value.int IntKind.i64 0]) w := by intro w; kernel_rfl
@[simp] theorem zeroValue38 : ∀ (w : World), Sem.run Star.prog (zeroValue 38) w = Result.ok (Value.agg #[Value.int IntKind.u8 0, Value.slice none 0 0, Value.int IntKind.i64 0]) w := by intro w; kernel_rfl
@[simp] theorem zeroValue39 : ∀ (w : World), Sem.run Star.prog (zeroValue 39) w = Result.ok (Value.tuple #[Value.int IntKind.i64 0, Value.int IntKind.i64 0]) w := by intro w; kernel_rfl
@[simp] theorem zeroValue4 : ∀ (w : World), Sem.run Star.prog (zeroValue 4) w = Result.ok (Value.bool false) w := by intro w; kernel_rfl
@[simp] theorem zeroValue40 : ∀ (w : World), Sem.run Star.prog (zeroValue 40) w = Result.ok Value.nilFunc w := by intro w; kernel_rfl
@[simp] theorem zeroValue41 : ∀ (w : World), Sem.run Star.prog (zeroValue 41) w = Result.ok Value.nilFunc w := by intro w; kernel_rfl
@[simp] theorem zeroValue42 : ∀ (w : World), Sem.run Star.prog (zeroValue 42) w = Result.ok (Value.tuple #[Value.slice none 0 0, Value.int IntKind.i64 0]) w := by intro w; kernel_rfl
@[simp] theorem zeroValue43 : ∀ (w : World), Sem.run Star.prog (zeroValue 43) w = Result.ok Value.nilFunc w := by intro w; kernel_rfl
@[simp] theorem zeroValue44 : ∀ (w : World), Sem.run Star.prog (zeroValue 44) w = Result.ok (Value.agg #[Value.int IntKind.i64 0, Value.int IntKind.i64 0, Value.int IntKind.u64 0, Value.int IntKind.u64 0, Value.int IntKind.u64 0, Value.int IntKind.u64 0, Value.int IntKind.u64 0, Value.int IntKind.u64 0, Value.int IntKind.u64 0, Value.int IntKind.u64 0, Value.int IntKind.u64 0, Value.int IntKind.u64 0, Value.int IntKind.u64 0, Value.int IntKind.u64 0, Value.int IntKind.u64 0, Value.int IntKind.u64 0, Value.int IntKind.u64 0, Value.int IntKind.u64 0, Value.int IntKind.u64 0, Value.int IntKind.u64 0, Value.int IntKind.u64 0, Value.int IntKind.u64 0, Value.int IntKind.u64 0, Value.int IntKind.u64 0, Value.int IntKind.u64 0, Value.int IntKind.u64 0, Value.int IntKind.u64 0, Value.int IntKind.i64 0, Value.bool false, Value.slice none 0 0]) w := by intro w; kernel_rfl
@[simp] theorem zeroValue45 : ∀ (w : World), Sem.run Star.prog (zeroValue 45) w = Result.ok (Value.agg #[Value.int IntKind.i64 0, Value.int IntKind.i64 0, Value.int IntKind.u64 0, Value.int IntKind.u64 0, Value.int IntKind.u64 0, Value.int IntKind.u64 0, Value.int IntKind.u64 0, Value.int IntKind.u64 0, Value.int IntKind.u64 0, Value.int IntKind.u64 0, Value.int IntKind.u64 0, Value.int IntKind.u64 0, Value.int IntKind.u64 0, Value.int IntKind.u64 0, Value.int IntKind.u64 0, Value.int IntKind.u64 0, Value.int IntKind.u64 0, Value.int IntKind.u64 0, Value.int IntKind.u64 0, Value.int IntKind.u64 0, Value.int IntKind.u64 0, Value.int IntKind.u64 0, Value.int IntKind.u64 0, Value.int IntKind.u64 0, Value.int IntKind.u64 0, Value.int IntKind.u64 0, Value.int IntKind.u64 0, Value.int IntKind.i64 0, Value.bool false, Value.slice none 0 0]) w := by intro w; kernel_rfl
@[simp] theorem zeroValue46 : ∀ (w : World), Sem.run Star.prog (zeroValue 46) w = Result.ok Value.nilFunc w := by intro w; kernel_rfl
@[simp] theorem zeroValue47 : ∀ (w : World), Sem.run Star.prog (zeroValue 47) w = Result.ok Value.nilFunc w := by intro w; kernel_rfl
@[simp] theorem zeroValue48 : ∀ (w : World), Sem.run Star.prog (zeroValue 48) w = Result.ok Value.nilFunc w := by intro w; kernel_rfl
@[simp] theorem zeroValue49 : ∀ (w : World), Sem.run Star.prog (zeroValue 49) w = Result.ok Value.nilFunc w := by intro w; kernel_rfl
@[simp] theorem zeroValue5 : ∀ (w : World), Sem.run Star.prog (zeroValue 5) w = Result.ok (Value.int IntKind.u8 0) w := by intro w; kernel_rfl
@[simp] theorem zeroValue50 : ∀ (w : World), Sem.run Star.prog (zeroValue 50) w = Result.ok (Value.slice none 0 0) w := by intro w; kernel_rfl
@[simp] theorem zeroValue51 : ∀ (w : World), Sem.run Star.prog (zeroValue 51) w = Result.ok Value.nilFunc w := by intro w; kernel_rfl
@[simp] theorem zeroValue52 : ∀ (w : World), Sem.run Star.prog (zeroValue 52) w = Result.ok Value.nilFunc w := by intro w; kernel_rfl
@[simp] theorem zeroValue53 : ∀ (w : World), Sem.run Star.prog (zeroValue 53) w = Result.ok Value.nilFunc w := by intro w; kernel_rfl
@[simp] theorem zeroValue54 : ∀ (w : World), Sem.run Star.prog (zeroValue 54) w = Result.ok Value.nilFunc w := by intro w; kernel_rfl
@[simp] theorem zeroValue55 : ∀ (w : World), Sem.run Star.prog (zeroValue 55) w = Result.ok (Value.agg #[Value.int IntKind.u8 0, Value.int IntKind.u8 0]) w := by intro w; kernel_rfl
@[simp] theorem zeroValue56 : ∀ (w : World), Sem.run Star.prog (zeroValue 56) w = Result.ok (Value.tuple #[Value.agg #[Value.int IntKind.u64 0, Value.int IntKind.u64 0, Value.int IntKind.u64 0, Value.int IntKind.u64 0, Value.int IntKind.u64 0, Value.int IntKind.u64 0, Value.int IntKind.u64 0, Value.int IntKind.u64 0, Value.int IntKind.u64 0, Value.int IntKind.u64 0, Value.int IntKind.u64 0, Value.int IntKind.u64 0, Value.int IntKind.u64 0, Value.int IntKind.u64 0, Value.int IntKind.u64 0, Value.int IntKind.u64 0, Value.int IntKind.u64 0, Value.int IntKind.u64 0, Value.int IntKind.u64 0, Value.int IntKind.u64 0, Value.int IntKind.u64 0, Value.int IntKind.u64 0, Value.int IntKind.u64 0, Value.int IntKind.u64 0, Value.int IntKind.u64 0], Value.int IntKind.i64 0, Value.bool false]) w := by intro w; kernel_rfl
@[simp] theorem zeroValue57 : ∀ (w : World), Sem.run Star.prog (zeroValue 57) w = Result.ok Value.nilFunc w := by intro w; kernel_rfl
@[simp] theorem zeroValue58 : ∀ (w : World), Sem.run Star.prog (zeroValue 58) w = Result.ok Value.nilFunc w := by intro w; kernel_rfl
@[simp] theorem zeroValue59 : ∀ (w : World), Sem.run Star.prog (zeroValue 59) w = Result.ok Value.nilFunc w := by intro w; kernel_rfl
@[simp] theorem zeroValue6 : ∀ (w : World), Sem.run Star.prog (zeroValue 6) w = Result.ok (Value.int IntKind.u8 0) w := by intro w; kernel_rfl
@[simp] theorem zeroValue60 : ∀ (w : World), Sem.run Star.prog (zeroValue 60) w = Result.ok Value.nilFunc w := by intro w; kernel_rfl
@[simp] theorem zeroValue61 : ∀ (w : World), Sem.run Star.prog (zeroValue 61) w = Result.ok (Value.agg #[Value.int IntKind.i64 0, Value.int IntKind.u8 0, Value.int IntKind.u64 0, Value.int IntKind.u64 0, Value.int IntKind.u64 0, Value.int IntKind.u64 0, Value.int IntKind.u64 0, Value.int IntKind.u64 0, Value.int IntKind.u64 0, Value.int IntKind.u64 0, Value.int IntKind.u64 0, Value.int IntKind.u64 0, Value.int IntKind.u64 0, Value.int IntKind.u64 0, Value.int IntKind.u64 0, Value.int IntKind.u64 0, Value.int IntKind.u64 0, Value.int IntKind.u64 0, Value.int IntKind.u64 0, Value.int IntKind.u64 0, Value.int IntKind.u64 0, Value.int IntKind.u64 0, Value.int IntKind.u64 0, Value.int IntKind.u64 0, Value.int IntKind.u64 0, Value.int IntKind.u64 0, Value.int IntKind.u64 0, Value.int IntKind.i64 0, Value.bool false]) w := by intro w; kernel_rfl
@[simp] theorem zeroValue62 : ∀ (w : World), Sem.run Star.prog (zeroValue 62) w = Result.ok (Value.agg #[Value.int IntKind.i64 0, Value.int IntKind.u8 0, Value.int IntKind.u64 0, Value.int IntKind.u64 0, Value.int IntKind.u64 0, Value.int IntKind.u64 0, Value.int IntKind.u64 0, Value.int IntKind.u64 0, Value.int IntKind.u64 0, Value.int IntKind.u64 0, Value.int IntKind.u64 0, Value.int IntKind.u64 0, Value.int IntKind.u64 0, Value.int IntKind.u64 0, Value.int IntKind.u64 0, Value.int IntKind.u64 0, Value.int IntKind.u64 0, Value.int IntKind.u64 0, Value.int IntKind.u64 0, Value.int IntKind.u64 0, Value.int IntKind.u64 0, Value.int IntKind.u64 0, Value.int IntKind.u64 0, Value.int IntKind.u64 0, Value.int IntKind.u64 0, Value.int IntKind.u64 0, Value.int IntKind.u64 0, Value.int IntKind.i64 0, Value.bool false]) w := by intro w; kernel_rfl
@[simp] theorem zeroValue63 : ∀ (w : World), Sem.run Star.prog (zeroValue 63) w = Result.ok (Value.chan none) w := by intro w; kernel_rfl
@[simp] theorem zeroValue64 : ∀ (w : World), Sem.run Star.prog (zeroValue 64) w = Result.ok (Value.chan none) w := by intro w; kernel_rfl
@[simp] theorem zeroValue65 : ∀ (w : World), Sem.run Star.prog (zeroValue 65) w = Result.ok Value.nilFunc w := by intro w; kernel_rfl
@[simp] theorem zeroValue66 : ∀ (w : World), Sem.run Star.prog (zeroValue 66) w = Result.ok Value.nilFunc w := by intro w; kernel_rfl
@[simp] theorem zeroValue67 : ∀ (w : World), Sem.run Star.prog (zeroValue 67) w = Result.ok Value.nilFunc w := by intro w; kernel_rfl
@[simp] theorem zeroValue68 : ∀ (w : World), Sem.run Star.prog (zeroValue 68) w = Result.ok Value.nilFunc w := by intro w; kernel_rfl
@[simp] theorem zeroValue69 : ∀ (w : World), Sem.run Star.prog (zeroValue 69) w = Result.ok Value.nilFunc w := by intro w; kernel_rfl
@[simp] theorem zeroValue7 : ∀ (w : World), Sem.run Star.prog (zeroValue 7) w = Result.ok (Value.agg #[Value.int IntKind.i64 0, Value.int IntKind.i64 0, Value.bool false, Value.int IntKind.u8 0]) w := by intro w; kernel_rfl
@[simp] theorem zeroValue70 : ∀ (w : World), Sem.run Star.prog (zeroValue 70) w = Result.ok Value.nilFunc w := by intro w; kernel_rfl
@[simp] theorem zeroValue71 : ∀ (w : World), Sem.run Star.prog (zeroValue 71) w = Result.ok Value.nilFunc w := by intro w; kernel_rfl
@[simp] theorem zeroValue72 : ∀ (w : World), Sem.run Star.prog (zeroValue 72) w = Result.ok (Value.chan none) w := by intro w; kernel_rfl
@[simp] theorem zeroValue73 : ∀ (w : World), Sem.run Star.prog (zeroValue 73) w = Result.ok (Value.chan none) w := by intro w; kernel_rfl
@[simp] theorem zeroValue74 : ∀ (w : World), Sem.run Star.prog (zeroValue 74) w = Result.ok (Value.chan none) w := by intro w; kernel_rfl
@[simp] theorem zeroValue75 : ∀ (w : World), Sem.run Star.prog (zeroValue 75) w = Result.ok (Value.chan none) w := by intro w; kernel_rfl
@[simp] theorem zeroValue76 : ∀ (w : World), Sem.run Star.prog (zeroValue 76) w = Result.ok Value.nilFunc w := by intro w; kernel_rfl
@[simp] theorem zeroValue77 : ∀ (w : World), Sem.run Star.prog (zeroValue 77) w = Result.ok (Value.agg #[]) w := by intro w; kernel_rfl
@[simp] theorem zeroValue78 : ∀ (w : World), Sem.run Star.prog (zeroValue 78) w = Result.ok Value.nilFunc w := by intro w; kernel_rfl
@[simp] theorem zeroValue79 : ∀ (w : World), Sem.run Star.prog (zeroValue 79) w = Result.ok Value.nilFunc w := by intro w; kernel_rfl
@[simp] theorem zeroValue8 : ∀ (w : World), Sem.run Star.prog (zeroValue 8) w = Result.ok (Value.agg #[Value.int IntKind.i64 0, Value.int IntKind.i64 0, Value.bool false, Value.int IntKind.u8 0]) w := by intro w; kernel_rfl
@[simp] theorem zeroValue80 : ∀ (w : World), Sem.run Star.prog (zeroValue 80) w = Result.ok Value.nilFunc w := by intro w; kernel_rfl
@[simp] theorem zeroValue81 : ∀ (w : World), Sem.run Star.prog (zeroValue 81) w = Result.ok Value.nilFunc w := by intro w; kernel_rfl
@[simp] theorem zeroValue82 : ∀ (w : World), Sem.run Star.prog (zeroValue 82) w = Result.ok Value.nilFunc w := by intro w; kernel_rfl
@[simp] theorem zeroValue83 : ∀ (w : World), Sem.run Star.prog (zeroValue 83) w = Result.ok Value.nilFunc w := by intro w; kernel_rfl
@[simp] theorem zeroValue84 : ∀ (w : World), Sem.run Star.prog (zeroValue 84) w = Result.ok (Value.slice none 0 0) w := by intro w; kernel_rfl
@[simp] theorem zeroValue85 : ∀ (w : World), Sem.run Star.prog (zeroValue 85) w = Result.ok Value.nilFunc w := by intro w; kernel_rfl
@[simp] theorem zeroValue86 : ∀ (w : World), Sem.run Star.prog (zeroValue 86) w = Result.ok Value.nilFunc w := by intro w; kernel_rfl
@[simp] theorem zeroValue87 : ∀ (w : World), Sem.run Star.prog (zeroValue 87) w = Result.ok (Value.tuple #[Value.int IntKind.i64 0, Value.int IntKind.i64 0]) w := by intro w; kernel_rfl
@[simp] theorem zeroValue88 : ∀ (w : World), Sem.run Star.prog (zeroValue 88) w = Result.ok Value.nilFunc w := by intro w; kernel_rfl
@[simp] theorem zeroValue89 : ∀ (w : World), Sem.run Star.prog (zeroValue 89) w = Result.ok (Value.agg Tryd.zeroCells89) w := by intro w; kernel_rfl
@[simp] theorem zeroValue9 : ∀ (w : World), Sem.run Star.prog (zeroValue 9) w = Result.ok (Value.string { data := #[] }) w := by intro w; kernel_rfl
@[simp] theorem zeroValue90 : ∀ (w : World), Sem.run Star.prog (zeroValue 90) w = Result.ok Value.nilFunc w := by intro w; kernel_rfl
@[simp] theorem zeroValue91 : ∀ (w : World), Sem.run Star.prog (zeroValue 91) w = Result.ok Value.nilFunc w := by intro w; kernel_rfl
@[simp] theorem zeroValue92 : ∀ (w : World), Sem.run Star.prog (zeroValue 92) w = Result.ok Value.nilFunc w := by intro w; kernel_rfl
@[simp] theorem zeroValue93 : ∀ (w : World), Sem.run Star.prog (zeroValue 93) w = Result.ok Value.nilFunc w := by intro w; kernel_rfl
@[simp] theorem zeroValue94 : ∀ (w : World), Sem.run Star.prog (zeroValue 94) w = Result.ok Value.nilFunc w := by intro w; kernel_rfl
@[simp] theorem zeroValue95 : ∀ (w : World), Sem.run Star.prog (zeroValue 95) w = Result.ok (Value.agg #[Value.int IntKind.i64 0, Value.int IntKind.i64 0, Value.int IntKind.i64 0, Value.int IntKind.i64 0, Value.int IntKind.i64 0, Value.int IntKind.i64 0, Value.int IntKind.i64 0, Value.int IntKind.i64 0, Value.int IntKind.i64 0, Value.int IntKind.i64 0, Value.int IntKind.i64 0, Value.int IntKind.i64 0, Value.int IntKind.i64 0, Value.int IntKind.i64 0, Value.int IntKind.i64 0, Value.int IntKind.i64 0, Value.int IntKind.i64 0, Value.int IntKind.i64 0, Value.int IntKind.i64 0, Value.int IntKind.i64 0, Value.int IntKind.i64 0, Value.int IntKind.i64 0, Value.int IntKind.i64 0, Value.int IntKind.i64 0, Value.int IntKind.i64 0]) w := by intro w; kernel_rfl
@[simp] theorem zeroValue96 : ∀ (w : World), Sem.run Star.prog (zeroValue 96) w = Result.ok Value.nilFunc w := by intro w; kernel_rfl
@[simp] theorem zeroValue97 : ∀ (w : World), Sem.run Star.prog (zeroValue 97) w = Result.ok Value.nilFunc w := by intro w; kernel_rfl
@[simp] theorem zeroValue98 : ∀ (w : World), Sem.run Star.prog (zeroValue 98) w = Result.ok (Value.agg #[Value.int IntKind.u64 0, Value.int IntKind.u64 0, Value.int IntKind.u64 0, Value.int IntKind.u64 0, Value.int IntKind.u64 0]) w := by intro w; kernel_rfl
@[simp] theorem zeroValue99 : ∀ (w : World), Sem.run Star.prog (zeroValue 99) w = Result.ok Value.nilFunc w := by intro w; kernel_rfl
theorem ntmps0 : Tryd.f0.ntmps = 0 := by kernel_rfl
theorem results0 : Tryd.f0.results = #[] := by kernel_rfl
theorem params0 : Tryd.f0.params = #[] := by kernel_rfl
theorem nfree0 : Tryd.f0.nfree = 0 := by kernel_rfl
theorem ntmps1 : Tryd.f1.ntmps = 0 := by kernel_rfl
theorem results1 : Tryd.f1.results = #[] := by kernel_rfl
theorem params1 : Tryd.f1.params = #[] := by kernel_rfl
theorem nfree1 : Tryd.f1.nfree = 0 := by kernel_rfl
theorem ntmps2 : Tryd.f2.ntmps = 1 := by kernel_rfl
theorem results2 : Tryd.f2.results = #[] := by kernel_rfl
theorem params2 : Tryd.f2.params = #[] := by kernel_rfl
theorem nfree2 : Tryd.f2.nfree = 0 := by kernel_rfl
theorem ntmps5 : Tryd.f5.ntmps = 39 := by kernel_rfl
theorem results5 : Tryd.f5.results = #[ResultVar.tmp 4] := by kernel_rfl
theorem params5 : Tryd.f5.params = #[3, 3] := by kernel_rfl
theorem nfree5 : Tryd.f5.nfree = 0 := by kernel_rfl
theorem ntmps7 : Tryd.f7.ntmps = 39 := by kernel_rfl
theorem results7 : Tryd.f7.results = #[ResultVar.tmp 0] := by kernel_rfl
theorem params7 : Tryd.f7.params = #[] := by kernel_rfl
theorem nfree7 : Tryd.f7.nfree = 0 := by kernel_rfl
theorem ntmps8 : Tryd.f8.ntmps = 33 := by kernel_rfl
theorem results8 : Tryd.f8.results = #[ResultVar.tmp 2] := by kernel_rfl
theorem params8 : Tryd.f8.params = #[27] := by kernel_rfl
theorem nfree8 : Tryd.f8.nfree = 0 := by kernel_rfl
theorem ntmps9 : Tryd.f9.ntmps = 35 := by kernel_rfl
theorem results9 : Tryd.f9.results = #[ResultVar.tmp 10, ResultVar.tmp 11] := by kernel_rfl
theorem params9 : Tryd.f9.params = #[3, 3, 24, 3, 4] := by kernel_rfl
theorem nfree9 : Tryd.f9.nfree = 0 := by kernel_rfl
theorem ntmps10 : Tryd.f10.ntmps = 62 := by kernel_rfl
theorem results10 : Tryd.f10.results = #[ResultVar.tmp 2] := by kernel_rfl
theorem params10 : Tryd.f10.params = #[26] := by kernel_rfl
theorem nfree10 : Tryd.f10.nfree = 0 := by kernel_rfl
theorem ntmps11 : Tryd.f11.ntmps = 30 := by kernel_rfl
theorem results11 : Tryd.f11.results = #[ResultVar.tmp 4] := by kernel_rfl
theorem params11 : Tryd.f11.params = #[30, 26] := by kernel_rfl
theorem nfree11 : Tryd.f11.nfree = 0 := by kernel_rfl
theorem ntmps13 : Tryd.f13.ntmps = 38 := by kernel_rfl
theorem results13 : Tryd.f13.results = #[ResultVar.cell 4 26] := by kernel_rfl
theorem params13 : Tryd.f13.params = #[26, 36] := by kernel_rfl
theorem nfree13 : Tryd.f13.nfree = 0 := by kernel_rfl
theorem ntmps14 : Tryd.f14.ntmps = 23 := by kernel_rfl
theorem results14 : Tryd.f14.results = #[ResultVar.tmp 4, ResultVar.tmp 5] := by kernel_rfl
theorem params14 : Tryd.f14.params = #[30, 3] := by kernel_rfl
theorem nfree14 : Tryd.f14.nfree = 0 := by kernel_rfl
theorem ntmps15 : Tryd.f15.ntmps = 61 := by kernel_rfl
theorem results15 : Tryd.f15.results = #[ResultVar.cell 4 45] := by kernel_rfl
theorem params15 : Tryd.f15.params = #[26, 3] := by kernel_rfl
theorem nfree15 : Tryd.f15.nfree = 0 := by kernel_rfl
theorem ntmps16 : Tryd.f16.ntmps = 26 := by kernel_rfl
theorem results16 : Tryd.f16.results = #[ResultVar.tmp 4] := by kernel_rfl
theorem params16 : Tryd.f16.params = #[36, 36] := by kernel_rfl
theorem nfree16 : Tryd.f16.nfree = 0 := by kernel_rfl
theorem ntmps17 : Tryd.f17.ntmps = 19 := by kernel_rfl
theorem results17 : Tryd.f17.results = #[ResultVar.tmp 4, ResultVar.tmp 5] := by kernel_rfl
theorem params17 : Tryd.f17.params = #[30, 3] := by kernel_rfl
theorem nfree17 : Tryd.f17.nfree = 0 := by kernel_rfl
theorem ntmps18 : Tryd.f18.ntmps = 7 := by kernel_rfl
theorem results18 : Tryd.f18.results = #[ResultVar.tmp 2] := by kernel_rfl
theorem params18 : Tryd.f18.params = #[30] := by kernel_rfl
theorem nfree18 : Tryd.f18.nfree = 0 := by kernel_rfl
theorem ntmps19 : Tryd.f19.ntmps = 12 := by kernel_rfl
theorem results19 : Tryd.f19.results = #[ResultVar.tmp 4, ResultVar.tmp 5] := by kernel_rfl
theorem params19 : Tryd.f19.params = #[3, 3] := by kernel_rfl
theorem nfree19 : Tryd.f19.nfree = 0 := by kernel_rfl
theorem ntmps20 : Tryd.f20.ntmps = 71 := by kernel_rfl
theorem results20 : Tryd.f20.results = #[ResultVar.tmp 8] := by kernel_rfl
theorem params20 : Tryd.f20.params = #[3, 3, 36, 3] := by kernel_rfl
theorem nfree20 : Tryd.f20.nfree = 0 := by kernel_rfl
theorem ntmps21 : Tryd.f21.ntmps = 17 := by kernel_rfl
theorem results21 : Tryd.f21.results = #[ResultVar.cell 2 24, ResultVar.tmp 3, ResultVar.tmp 4] := by kernel_rfl
theorem params21 : Tryd.f21.params = #[30] := by kernel_rfl
theorem nfree21 : Tryd.f21.nfree = 0 := by kernel_rfl
theorem ntmps22 : Tryd.f22.ntmps = 6 := by kernel_rfl
theorem results22 : Tryd.f22.results = #[ResultVar.tmp 2] := by kernel_rfl
theorem params22 : Tryd.f22.params = #[3] := by kernel_rfl
theorem nfree22 : Tryd.f22.nfree = 0 := by kernel_rfl
theorem ntmps23 : Tryd.f23.ntmps = 6 := by kernel_rfl
theorem results23 : Tryd.f23.results = #[ResultVar.tmp 2] := by kernel_rfl
theorem params23 : Tryd.f23.params = #[3] := by kernel_rfl
theorem nfree23 : Tryd.f23.nfree = 0 := by kernel_rfl
theorem ntmps24 : Tryd.f24.ntmps = 22 := by kernel_rfl
theorem results24 : Tryd.f24.results = #[ResultVar.tmp 6] := by kernel_rfl
theorem params24 : Tryd.f24.params = #[3, 3, 4] := by kernel_rfl
theorem nfree24 : Tryd.f24.nfree = 0 := by kernel_rfl
theorem ntmps26 : Tryd.f26.ntmps = 17 := by kernel_rfl
theorem results26 : Tryd.f26.results = #[] := by kernel_rfl
theorem params26 : Tryd.f26.params = #[30, 74, 75] := by kernel_rfl
theorem nfree26 : Tryd.f26.nfree = 0 := by kernel_rfl
theorem ntmps27 : Tryd.f27.ntmps = 48 := by kernel_rfl
theorem results27 : Tryd.f27.results = #[ResultVar.cell 6 24] := by kernel_rfl
theorem params27 : Tryd.f27.params = #[24, 3, 36] := by kernel_rfl
theorem nfree27 : Tryd.f27.nfree = 0 := by kernel_rfl
theorem ntmps28 : Tryd.f28.ntmps = 5 := by kernel_rfl
theorem results28 : Tryd.f28.results = #[ResultVar.cell 2 24] := by kernel_rfl
theorem params28 : Tryd.f28.params = #[24] := by kernel_rfl
theorem nfree28 : Tryd.f28.nfree = 0 := by kernel_rfl
theorem ntmps29 : Tryd.f29.ntmps = 9 := by kernel_rfl
theorem results29 : Tryd.f29.results = #[ResultVar.tmp 2] := by kernel_rfl
theorem params29 : Tryd.f29.params = #[3] := by kernel_rfl
theorem nfree29 : Tryd.f29.nfree = 0 := by kernel_rfl
theorem ntmps30 : Tryd.f30.ntmps = 38 := by kernel_rfl
theorem results30 : Tryd.f30.results = #[] := by kernel_rfl
theorem params30 : Tryd.f30.params = #[30] := by kernel_rfl
theorem nfree30 : Tryd.f30.nfree = 0 := by kernel_rfl
theorem ntmps31 : Tryd.f31.ntmps = 60 := by kernel_rfl
theorem results31 : Tryd.f31.results = #[ResultVar.tmp 4] := by kernel_rfl
theorem params31 : Tryd.f31.params = #[30, 3] := by kernel_rfl
theorem nfree31 : Tryd.f31.nfree = 0 := by kernel_rfl
theorem ntmps32 : Tryd.f32.ntmps = 40 := by kernel_rfl
theorem results32 : Tryd.f32.results = #[ResultVar.tmp 6] := by kernel_rfl
theorem params32 : Tryd.f32.params = #[24, 3, 3] := by kernel_rfl
theorem nfree32 : Tryd.f32.nfree = 0 := by kernel_rfl
theorem ntmps33 : Tryd.f33.ntmps = 9 := by kernel_rfl
theorem results33 : Tryd.f33.results = #[ResultVar.tmp 4] := by kernel_rfl
theorem params33 : Tryd.f33.params = #[50, 3] := by kernel_rfl
theorem nfree33 : Tryd.f33.nfree = 0 := by kernel_rfl
theorem ntmps34 : Tryd.f34.ntmps = 37 := by kernel_rfl
theorem results34 : Tryd.f34.results = #[] := by kernel_rfl
theorem params34 : Tryd.f34.params = #[30, 36] := by kernel_rfl
theorem nfree34 : Tryd.f34.nfree = 0 := by kernel_rfl
theorem ntmps35 : Tryd.f35.ntmps = 16 := by kernel_rfl
theorem results35 : Tryd.f35.results = #[ResultVar.tmp 2] := by kernel_rfl
theorem params35 : Tryd.f35.params = #[24] := by kernel_rfl
theorem nfree35 : Tryd.f35.nfree = 0 := by kernel_rfl
theorem ntmps36 : Tryd.f36.ntmps = 27 := by kernel_rfl
theorem results36 : Tryd.f36.results = #[ResultVar.tmp 4] := by kernel_rfl
theorem params36 : Tryd.f36.params = #[5, 5] := by kernel_rfl
theorem nfree36 : Tryd.f36.nfree = 0 := by kernel_rfl
theorem ntmps37 : Tryd.f37.ntmps = 19 := by kernel_rfl
theorem results37 : Tryd.f37.results = #[ResultVar.cell 2 24] := by kernel_rfl
theorem params37 : Tryd.f37.params = #[36] := by kernel_rfl
theorem nfree37 : Tryd.f37.nfree = 0 := by kernel_rfl
theorem ntmps38 : Tryd.f38.ntmps = 24 := by kernel_rfl
theorem results38 : Tryd.f38.results = #[ResultVar.cell 6 24] := by kernel_rfl
theorem params38 : Tryd.f38.params = #[24, 3, 3] := by kernel_rfl
theorem nfree38 : Tryd.f38.nfree = 0 := by kernel_rfl
theorem ntmps39 : Tryd.f39.ntmps = 40 := by kernel_rfl
theorem results39 : Tryd.f39.results = #[ResultVar.cell 6 24] := by kernel_rfl
theorem params39 : Tryd.f39.params = #[24, 3, 36] := by kernel_rfl
theorem nfree39 : Tryd.f39.nfree = 0 := by kernel_rfl
theorem ntmps40 : Tryd.f40.ntmps = 13 := by kernel_rfl
theorem results40 : Tryd.f40.results = #[] := by kernel_rfl
theorem params40 : Tryd.f40.params = #[30] := by kernel_rfl
theorem nfree40 : Tryd.f40.nfree = 0 := by kernel_rfl
theorem ntmps41 : Tryd.f41.ntmps = 21 := by kernel_rfl
theorem results41 : Tryd.f41.results = #[ResultVar.tmp 6] := by kernel_rfl
theorem params41 : Tryd.f41.params = #[24, 3, 3] := by kernel_rfl
theorem nfree41 : Tryd.f41.nfree = 0 := by kernel_rfl
theorem ntmps42 : Tryd.f42.ntmps = 19 := by kernel_rfl
theorem results42 : Tryd.f42.results = #[ResultVar.tmp 4] := by kernel_rfl
theorem params42 : Tryd.f42.params = #[50, 3] := by kernel_rfl
theorem nfree42 : Tryd.f42.nfree = 0 := by kernel_rfl
theorem ntmps43 : Tryd.f43.ntmps = 21 := by kernel_rfl
theorem results43 : Tryd.f43.results = #[ResultVar.tmp 4] := by kernel_rfl
theorem params43 : Tryd.f43.params = #[22, 3] := by kernel_rfl
theorem nfree43 : Tryd.f43.nfree = 0 := by kernel_rfl
theorem ntmps44 : Tryd.f44.ntmps = 33 := by kernel_rfl
theorem results44 : Tryd.f44.results = #[ResultVar.tmp 2] := by kernel_rfl
theorem params44 : Tryd.f44.params = #[36] := by kernel_rfl
theorem nfree44 : Tryd.f44.nfree = 0 := by kernel_rfl
theorem ntmps45 : Tryd.f45.ntmps = 17 := by kernel_rfl
theorem results45 : Tryd.f45.results = #[ResultVar.cell 4 24] := by kernel_rfl
theorem params45 : Tryd.f45.params = #[24, 3] := by kernel_rfl
theorem nfree45 : Tryd.f45.nfree = 0 := by kernel_rfl
theorem ntmps46 : Tryd.f46.ntmps = 23 := by kernel_rfl
theorem results46 : Tryd.f46.results = #[ResultVar.tmp 4, ResultVar.tmp 5] := by kernel_rfl
theorem params46 : Tryd.f46.params = #[3, 3] := by kernel_rfl
theorem nfree46 : Tryd.f46.nfree = 0 := by kernel_rfl
theorem ntmps47 : Tryd.f47.ntmps = 5 := by kernel_rfl
theorem results47 : Tryd.f47.results = #[ResultVar.tmp 2] := by kernel_rfl
theorem params47 : Tryd.f47.params = #[24] := by kernel_rfl
theorem nfree47 : Tryd.f47.nfree = 0 := by kernel_rfl
theorem ntmps48 : Tryd.f48.ntmps = 32 := by kernel_rfl
theorem results48 : Tryd.f48.results = #[ResultVar.tmp 4] := by kernel_rfl
theorem params48 : Tryd.f48.params = #[36, 36] := by kernel_rfl
theorem nfree48 : Tryd.f48.nfree = 0 := by kernel_rfl
theorem ntmps49 : Tryd.f49.ntmps = 9 := by kernel_rfl
theorem results49 : Tryd.f49.results = #[ResultVar.cell 2 24] := by kernel_rfl
theorem params49 : Tryd.f49.params = #[89] := by kernel_rfl
theorem nfree49 : Tryd.f49.nfree = 0 := by kernel_rfl
theorem ntmps50 : Tryd.f50.ntmps = 5 := by kernel_rfl
theorem results50 : Tryd.f50.results = #[ResultVar.cell 2 24] := by kernel_rfl
theorem params50 : Tryd.f50.params = #[24] := by kernel_rfl
theorem nfree50 : Tryd.f50.nfree = 0 := by kernel_rfl
theorem ntmps51 : Tryd.f51.ntmps = 8 := by kernel_rfl
theorem results51 : Tryd.f51.results = #[ResultVar.tmp 2] := by kernel_rfl
theorem params51 : Tryd.f51.params = #[36] := by kernel_rfl
theorem nfree51 : Tryd.f51.nfree = 0 := by kernel_rfl
theorem ntmps52 : Tryd.f52.ntmps = 36 := by kernel_rfl
theorem results52 : Tryd.f52.results = #[ResultVar.cell 2 24] := by kernel_rfl
theorem params52 : Tryd.f52.params = #[24] := by kernel_rfl
theorem nfree52 : Tryd.f52.nfree = 0 := by kernel_rfl
theorem ntmps53 : Tryd.f53.ntmps = 5 := by kernel_rfl
theorem results53 : Tryd.f53.results = #[ResultVar.cell 2 24] := by kernel_rfl
theorem params53 : Tryd.f53.params = #[24] := by kernel_rfl
theorem nfree53 : Tryd.f53.nfree = 0 := by kernel_rfl
theorem ntmps54 : Tryd.f54.ntmps = 20 := by kernel_rfl
theorem results54 : Tryd.f54.results = #[ResultVar.cell 2 24] := by kernel_rfl
theorem params54 : Tryd.f54.params = #[24] := by kernel_rfl
theorem nfree54 : Tryd.f54.nfree = 0 := by kernel_rfl
theorem ntmps55 : Tryd.f55.ntmps = 44 := by kernel_rfl
theorem results55 : Tryd.f55.results = #[ResultVar.cell 2 24] := by kernel_rfl
theorem params55 : Tryd.f55.params = #[24] := by kernel_rfl
theorem nfree55 : Tryd.f55.nfree = 0 := by kernel_rfl
theorem ntmps56 : Tryd.f56.ntmps = 13 := by kernel_rfl
theorem results56 : Tryd.f56.results = #[ResultVar.tmp 2] := by kernel_rfl
theorem params56 : Tryd.f56.params = #[3] := by kernel_rfl
theorem nfree56 : Tryd.f56.nfree = 0 := by kernel_rfl
theorem ntmps57 : Tryd.f57.ntmps = 14 := by kernel_rfl
theorem results57 : Tryd.f57.results = #[ResultVar.tmp 2] := by kernel_rfl
theorem params57 : Tryd.f57.params = #[84] := by kernel_rfl
theorem nfree57 : Tryd.f57.nfree = 0 := by kernel_rfl
theorem ntmps58 : Tryd.f58.ntmps = 5 := by kernel_rfl
theorem results58 : Tryd.f58.results = #[ResultVar.tmp 2] := by kernel_rfl
theorem params58 : Tryd.f58.params = #[36] := by kernel_rfl
theorem nfree58 : Tryd.f58.nfree = 0 := by kernel_rfl
theorem ntmps59 : Tryd.f59.ntmps = 22 := by kernel_rfl
theorem results59 : Tryd.f59.results = #[ResultVar.cell 6 24] := by kernel_rfl
theorem params59 : Tryd.f59.params = #[24, 3, 3] := by kernel_rfl
theorem nfree59 : Tryd.f59.nfree = 0 := by kernel_rfl
theorem ntmps60 : Tryd.f60.ntmps = 28 := by kernel_rfl
theorem results60 : Tryd.f60.results = #[ResultVar.cell 2 24] := by kernel_rfl
theorem params60 : Tryd.f60.params = #[24] := by kernel_rfl
theorem nfree60 : Tryd.f60.nfree = 0 := by kernel_rfl
theorem ntmps61 : Tryd.f61.ntmps = 28 := by kernel_rfl
theorem results61 : Tryd.f61.results = #[ResultVar.cell 0 95] := by kernel_rfl
theorem params61 : Tryd.f61.params = #[] := by kernel_rfl
theorem nfree61 : Tryd.f61.nfree = 0 := by kernel_rfl
theorem ntmps62 : Tryd.f62.ntmps = 18 := by kernel_rfl
theorem results62 : Tryd.f62.results = #[ResultVar.tmp 4] := by kernel_rfl
theorem params62 : Tryd.f62.params = #[22, 3] := by kernel_rfl
theorem nfree62 : Tryd.f62.nfree = 0 := by kernel_rfl
theorem ntmps63 : Tryd.f63.ntmps = 36 := by kernel_rfl
theorem results63 : Tryd.f63.results = #[ResultVar.tmp 2] := by kernel_rfl
theorem params63 : Tryd.f63.params = #[84] := by kernel_rfl
theorem nfree63 : Tryd.f63.nfree = 0 := by kernel_rfl
@[simp] theorem ntmps64 : Star.f64.ntmps = 9 := by kernel_rfl
@[simp] theorem results64 : Star.f64.results = #[ResultVar.tmp 4] := by kernel_rfl
@[simp] theorem params64 : Star.f64.params = #[36, 3] := by kernel_rfl
@[simp] theorem nfree64 : Star.f64.nfree = 0 := by kernel_rfl
theorem ntmps65 : Tryd.f65.ntmps = 5 := by kernel_rfl
theorem results65 : Tryd.f65.results = #[ResultVar.tmp 0] := by kernel_rfl
theorem params65 : Tryd.f65.params = #[] := by kernel_rfl
theorem nfree65 : Tryd.f65.nfree = 0 := by kernel_rfl
theorem ntmps66 : Tryd.f66.ntmps = 28 := by kernel_rfl
theorem results66 : Tryd.f66.results = #[] := by kernel_rfl
theorem params66 : Tryd.f66.params = #[36] := by kernel_rfl
theorem nfree66 : Tryd.f66.nfree = 0 := by kernel_rfl
theorem ntmps67 : Tryd.f67.ntmps = 34 := by kernel_rfl
theorem results67 : Tryd.f67.results = #[ResultVar.tmp 4] := by kernel_rfl
theorem params67 : Tryd.f67.params = #[36, 105] := by kernel_rfl
theorem nfree67 : Tryd.f67.nfree = 0 := by kernel_rfl
theorem ntmps68 : Tryd.f68.ntmps = 16 := by kernel_rfl
theorem results68 : Tryd.f68.results = #[ResultVar.tmp 2] := by kernel_rfl
theorem params68 : Tryd.f68.params = #[36] := by kernel_rfl
theorem nfree68 : Tryd.f68.nfree = 0 := by kernel_rfl
theorem ntmps69 : Tryd.f69.ntmps = 6 := by kernel_rfl
theorem results69 : Tryd.f69.results = #[ResultVar.tmp 2] := by kernel_rfl
theorem params69 : Tryd.f69.params = #[3] := by kernel_rfl
theorem nfree69 : Tryd.f69.nfree = 0 := by kernel_rfl
theorem ntmps70 : Tryd.f70.ntmps = 12 := by kernel_rfl
theorem results70 : Tryd.f70.results = #[ResultVar.cell 4 24] := by kernel_rfl
theorem params70 : Tryd.f70.params = #[24, 3] := by kernel_rfl
theorem nfree70 : Tryd.f70.nfree = 0 := by kernel_rfl
theorem ntmps71 : Tryd.f71.ntmps = 13 := by kernel_rfl
theorem results71 : Tryd.f71.results = #[ResultVar.tmp 4] := by kernel_rfl
theorem params71 : Tryd.f71.params = #[3, 3] := by kernel_rfl
theorem nfree71 : Tryd.f71.nfree = 0 := by kernel_rfl
theorem ntmps72 : Tryd.f72.ntmps = 31 := by kernel_rfl
theorem results72 : Tryd.f72.results = #[] := by kernel_rfl
theorem params72 : Tryd.f72.params = #[109] := by kernel_rfl
theorem nfree72 : Tryd.f72.nfree = 2 := by kernel_rfl
theorem ntmps73 : Tryd.f73.ntmps = 25 := by kernel_rfl
theorem results73 : Tryd.f73.results = #[ResultVar.tmp 2] := by kernel_rfl
theorem params73 : Tryd.f73.params = #[22] := by kernel_rfl
theorem nfree73 : Tryd.f73.nfree = 0 := by kernel_rfl
theorem ntmps74 : Tryd.f74.ntmps = 4 := by kernel_rfl
theorem results74 : Tryd.f74.results = #[ResultVar.tmp 2] := by kernel_rfl
theorem params74 : Tryd.f74.params = #[36] := by kernel_rfl
theorem nfree74 : Tryd.f74.nfree = 0 := by kernel_rfl
theorem ntmps75 : Tryd.f75.ntmps = 12 := by kernel_rfl
theorem results75 : Tryd.f75.results = #[ResultVar.cell 4 24] := by kernel_rfl
theorem params75 : Tryd.f75.params = #[24, 3] := by kernel_rfl
theorem nfree75 : Tryd.f75.nfree = 0 := by kernel_rfl
theorem ntmps76 : Tryd.f76.ntmps = 35 := by kernel_rfl
theorem results76 : Tryd.f76.results = #[ResultVar.cell 2 24] := by kernel_rfl
theorem params76 : Tryd.f76.params = #[24] := by kernel_rfl
theorem nfree76 : Tryd.f76.nfree = 0 := by kernel_rfl
theorem ntmps77 : Tryd.f77.ntmps = 26 := by kernel_rfl
theorem results77 : Tryd.f77.results = #[ResultVar.cell 2 24] := by kernel_rfl
theorem params77 : Tryd.f77.params = #[24] := by kernel_rfl
theorem nfree77 : Tryd.f77.nfree = 0 := by kernel_rfl
theorem ntmps78 : Tryd.f78.ntmps = 23 := by kernel_rfl
theorem results78 : Tryd.f78.results = #[ResultVar.cell 2 24] := by kernel_rfl
theorem params78 : Tryd.f78.params = #[24] := by kernel_rfl
theorem nfree78 : Tryd.f78.nfree = 0 := by kernel_rfl
theorem ntmps79 : Tryd.f79.ntmps = 22 := by kernel_rfl
theorem results79 : Tryd.f79.results = #[ResultVar.cell 2 24] := by kernel_rfl
theorem params79 : Tryd.f79.params = #[24] := by kernel_rfl
theorem nfree79 : Tryd.f79.nfree = 0 := by kernel_rfl
theorem ntmps80 : Tryd.f80.ntmps = 19 := by kernel_rfl
theorem results80 : Tryd.f80.results = #[] := by kernel_rfl
theorem params80 : Tryd.f80.params = #[114] := by kernel_rfl
theorem nfree80 : Tryd.f80.nfree = 1 := by kernel_rfl
theorem ntmps81 : Tryd.f81.ntmps = 36 := by kernel_rfl
theorem results81 : Tryd.f81.results = #[ResultVar.tmp 2] := by kernel_rfl
theorem params81 : Tryd.f81.params = #[3] := by kernel_rfl
theorem nfree81 : Tryd.f81.nfree = 0 := by kernel_rfl
theorem ntmps82 : Tryd.f82.ntmps = 11 := by kernel_rfl
theorem results82 : Tryd.f82.results = #[ResultVar.tmp 4] := by kernel_rfl
theorem params82 : Tryd.f82.params = #[3, 3] := by kernel_rfl
theorem nfree82 : Tryd.f82.nfree = 0 := by kernel_rfl
theorem ntmps83 : Tryd.f83.ntmps = 9 := by kernel_rfl
theorem results83 : Tryd.f83.results = #[ResultVar.tmp 4] := by kernel_rfl
theorem params83 : Tryd.f83.params = #[22, 3] := by kernel_rfl
theorem nfree83 : Tryd.f83.nfree = 0 := by kernel_rfl
theorem ntmps84 : Tryd.f84.ntmps = 24 := by kernel_rfl
theorem results84 : Tryd.f84.results = #[ResultVar.cell 2 98] := by kernel_rfl
theorem params84 : Tryd.f84.params = #[98] := by kernel_rfl
theorem nfree84 : Tryd.f84.nfree = 0 := by kernel_rfl
theorem ntmps85 : Tryd.f85.ntmps = 20 := by kernel_rfl
theorem results85 : Tryd.f85.results = #[ResultVar.cell 2 98] := by kernel_rfl
theorem params85 : Tryd.f85.params = #[24] := by kernel_rfl
theorem nfree85 : Tryd.f85.nfree = 0 := by kernel_rfl
theorem ntmps86 : Tryd.f86.ntmps = 11 := by kernel_rfl
theorem results86 : Tryd.f86.results = #[ResultVar.tmp 2] := by kernel_rfl
theorem params86 : Tryd.f86.params = #[22] := by kernel_rfl
theorem nfree86 : Tryd.f86.nfree = 0 := by kernel_rfl
theorem ntmps87 : Tryd.f87.ntmps = 7 := by kernel_rfl
theorem results87 : Tryd.f87.results = #[ResultVar.tmp 2] := by kernel_rfl
theorem params87 : Tryd.f87.params = #[3] := by kernel_rfl
theorem nfree87 : Tryd.f87.nfree = 0 := by kernel_rfl
theorem ntmps88 : Tryd.f88.ntmps = 17 := by kernel_rfl
theorem results88 : Tryd.f88.results = #[ResultVar.tmp 4] := by kernel_rfl
theorem params88 : Tryd.f88.params = #[22, 3] := by kernel_rfl
theorem nfree88 : Tryd.f88.nfree = 0 := by kernel_rfl
theorem ntmps89 : Tryd.f89.ntmps = 1 := by kernel_rfl
theorem results89 : Tryd.f89.results = #[] := by kernel_rfl
theorem params89 : Tryd.f89.params = #[8] := by kernel_rfl
theorem nfree89 : Tryd.f89.nfree = 0 := by kernel_rfl
theorem ntmps90 : Tryd.f90.ntmps = 1 := by kernel_rfl
theorem results90 : Tryd.f90.results = #[] := by kernel_rfl
theorem params90 : Tryd.f90.params = #[8] := by kernel_rfl
theorem nfree90 : Tryd.f90.nfree = 0 := by kernel_rfl
theorem ntmps91 : Tryd.f91.ntmps = 1 := by kernel_rfl
theorem results91 : Tryd.f91.results = #[] := by kernel_rfl
theorem params91 : Tryd.f91.params = #[10] := by kernel_rfl
theorem nfree91 : Tryd.f91.nfree = 0 := by kernel_rfl
theorem ntmps92 : Tryd.f92.ntmps = 1 := by kernel_rfl
theorem results92 : Tryd.f92.results = #[] := by kernel_rfl
theorem params92 : Tryd.f92.params = #[10] := by kernel_rfl
theorem nfree92 : Tryd.f92.nfree = 0 := by kernel_rfl
theorem ntmps93 : Tryd.f93.ntmps = 1 := by kernel_rfl
theorem results93 : Tryd.f93.results = #[] := by kernel_rfl
theorem params93 : Tryd.f93.params = #[11] := by kernel_rfl
theorem nfree93 : Tryd.f93.nfree = 0 := by kernel_rfl
theorem ntmps94 : Tryd.f94.ntmps = 1 := by kernel_rfl
theorem results94 : Tryd.f94.results = #[] := by kernel_rfl
theorem params94 : Tryd.f94.params = #[11] := by kernel_rfl
theorem nfree94 : Tryd.f94.nfree = 0 := by kernel_rfl
theorem ntmps95 : Tryd.f95.ntmps = 1 := by kernel_rfl
theorem results95 : Tryd.f95.results = #[] := by kernel_rfl
theorem params95 : Tryd.f95.params = #[14] := by kernel_rfl
theorem nfree95 : Tryd.f95.nfree = 0 := by kernel_rfl
theorem ntmps96 : Tryd.f96.ntmps = 1 := by kernel_rfl
theorem results96 : Tryd.f96.results = #[] := by kernel_rfl
theorem params96 : Tryd.f96.params = #[14] := by kernel_rfl
theorem nfree96 : Tryd.f96.nfree = 0 := by kernel_rfl
theorem ntmps97 : Tryd.f97.ntmps = 1 := by kernel_rfl
theorem results97 : Tryd.f97.results = #[] := by kernel_rfl
theorem params97 : Tryd.f97.params = #[15] := by kernel_rfl
theorem nfree97 : Tryd.f97.nfree = 0 := by kernel_rfl
theorem ntmps98 : Tryd.f98.ntmps = 1 := by kernel_rfl
theorem results98 : Tryd.f98.results = #[] := by kernel_rfl
theorem params98 : Tryd.f98.params = #[15] := by kernel_rfl
theorem nfree98 : Tryd.f98.nfree = 0 := by kernel_rfl
theorem ntmps99 : Tryd.f99.ntmps = 1 := by kernel_rfl
theorem results99 : Tryd.f99.results = #[] := by kernel_rfl
theorem params99 : Tryd.f99.params = #[16] := by kernel_rfl
theorem nfree99 : Tryd.f99.nfree = 0 := by kernel_rfl
theorem ntmps100 : Tryd.f100.ntmps = 1 := by kernel_rfl
theorem results100 : Tryd.f100.results = #[] := by kernel_rfl
theorem params100 : Tryd.f100.params = #[16] := by kernel_rfl
theorem nfree100 : Tryd.f100.nfree = 0 := by kernel_rfl
theorem ntmps101 : Tryd.f101.ntmps = 1 := by kernel_rfl
theorem results101 : Tryd.f101.results = #[] := by kernel_rfl
theorem params101 : Tryd.f101.params = #[17] := by kernel_rfl
theorem nfree101 : Tryd.f101.nfree = 0 := by kernel_rfl
theorem ntmps102 : Tryd.f102.ntmps = 1 := by kernel_rfl
theorem results102 : Tryd.f102.results = #[] := by kernel_rfl
theorem params102 : Tryd.f102.params = #[19] := by kernel_rfl
theorem nfree102 : Tryd.f102.nfree = 0 := by kernel_rfl
theorem ntmps103 : Tryd.f103.ntmps = 1 := by kernel_rfl
theorem results103 : Tryd.f103.results = #[] := by kernel_rfl
theorem params103 : Tryd.f103.params = #[19] := by kernel_rfl
theorem nfree103 : Tryd.f103.nfree = 0 := by kernel_rfl
theorem ntmps104 : Tryd.f104.ntmps = 1 := by kernel_rfl
theorem results104 : Tryd.f104.results = #[] := by kernel_rfl
theorem params104 : Tryd.f104.params = #[31] := by kernel_rfl
theorem nfree104 : Tryd.f104.nfree = 0 := by kernel_rfl
theorem ntmps105 : Tryd.f105.ntmps = 1 := by kernel_rfl
theorem results105 : Tryd.f105.results = #[] := by kernel_rfl
theorem params105 : Tryd.f105.params = #[128] := by kernel_rfl
theorem nfree105 : Tryd.f105.nfree = 0 := by kernel_rfl
theorem ntmps106 : Tryd.f106.ntmps = 0 := by kernel_rfl
theorem results106 : Tryd.f106.results = #[] := by kernel_rfl
theorem params106 : Tryd.f106.params = #[] := by kernel_rfl
theorem nfree106 : Tryd.f106.nfree = 0 := by kernel_rfl
theorem ntmps107 : Tryd.f107.ntmps = 0 := by kernel_rfl
theorem results107 : Tryd.f107.results = #[] := by kernel_rfl
theorem params107 : Tryd.f107.params = #[] := by kernel_rfl
theorem nfree107 : Tryd.f107.nfree = 0 := by kernel_rfl
theorem ntmps108 : Tryd.f108.ntmps = 0 := by kernel_rfl
theorem results108 : Tryd.f108.results = #[] := by kernel_rfl
theorem params108 : Tryd.f108.params = #[] := by kernel_rfl
theorem nfree108 : Tryd.f108.nfree = 0 := by kernel_rfl
theorem ntmps109 : Tryd.f109.ntmps = 6 := by kernel_rfl
theorem results109 : Tryd.f109.results = #[] := by kernel_rfl
theorem params109 : Tryd.f109.params = #[] := by kernel_rfl
theorem nfree109 : Tryd.f109.nfree = 0 := by kernel_rfl
theorem hard : Tryd.prog.funcs.size = 110 := by kernel_rfl
end
end Star
end Go.Proofs.YtopelmhpahohfaaDoor
