package parse

import (
	"testing"

	"gimlet/api"
)

func TestExamples(t *testing.T) {
	parses(t, "let f = fun x -> x + 1;;", "Let@0(Var f@4, Fun@8(Var x@12, Op +@17(Var x@17, Int 1@21)))")
	parses(t, "type ('a, 'b) t = A | B of 'a * 'b t;;", "Type t 2@0(TypeVar a@6, TypeVar b@10, Ctor A@18, Ctor B@22(TypePair@27(TypeVar a@27, TypeName t@32(TypeVar b@32))))")
	wrong(t, "let x = 1^")
	wrong(t, "let x = 1 < 2 ^< 3;;")
	parses(t, "let x = match y with 0 -> match z with 1 -> 2 | _ -> 3;;", "Let@0(Var x@4, Match@8(Var y@14, Case@21(Int 0@21, Match@26(Var z@32, Case@39(Int 1@39, Int 2@44), Case@48(Any@48, Int 3@53)))))")
}

func TestPrograms(t *testing.T) {
	for _, text := range []string{"", " ", "(* a *)\n", "\t(**) "} {
		parses(t, text, "")
	}
	parses(t, "exception E;;exception F;;", "Exn E@0, Exn F@13")
	parses(t, " let _=1;;\nlet _=2 (* x *) ;; ", "Let@1(Any@5, Int 1@7), Let@11(Any@15, Int 2@17)")
	wrong(t, "^;;")
	wrong(t, "exception E;;^;;")
	wrong(t, "exception E^")
	wrong(t, "exception E ^")
	wrong(t, "exception E  (**) ^")
	wrong(t, "exception E ^; ;")
	wrong(t, "exception E ^exception F;;")
	wrong(t, "exception E;; ^x;;")
	wrong(t, "^x;;")
	wrong(t, "^rec f = fun x -> x;;")
	wrong(t, "^\"let\" x = 1;;")
	wrong(t, "let x = 1 \";;\"^")
	wrong(t, "exception E ^\";;\"")
	wrong(t, "exception E;; let x = 1 ^let y = 2;;")
}

func TestDecls(t *testing.T) {
	parses(t, "type t = A;;", "Type t@0(Ctor A@9)")
	parses(t, "type 'a t = A | B | C of 'a;;", "Type t 1@0(TypeVar a@5, Ctor A@12, Ctor B@16, Ctor C@20(TypeVar a@25))")
	parses(t, "type ('a) t = A;;", "Type t 1@0(TypeVar a@6, Ctor A@14)")
	parses(t, "type ( 'a,'b , 'a) t = A of int -> int | B;;", "Type t 3@0(TypeVar a@7, TypeVar b@10, TypeVar a@15, Ctor A@23(TypeFun@28(TypeName int@28, TypeName int@35)), Ctor B@41)")
	for _, text := range []string{
		"type ^", "type ^;;", "type ^A = B;;", "type t ^", "type t ^A;;", "type t = ^", "type t = ^;;", "type t = ^| A;;", "type t = ^a;;", "type t = A | ^;;", "type t = A | ^| B;;", "type t = A ^B;;", "type t = A ^int;;",
		"type t = A of ^;;", "type t = A of ^| B;;", "type t = A of ^B;;", "type (^) t = A;;", "type ('a ^'b) t = A;;", "type ('a, ^) t = A;;", "type ('a ^t = A;;", "type ('a,^", "type (^a) t = A;;", "type 'a ^'b t = A;;", "type 'a^, 'b t = A;;",
		"type t ^'a = A;;", "type ^rec t = A;;", "type t = A ^and u = B;;", "type (^('a)) t = A;;", "type ^\"t\" = A;;", "type t ^\"=\" A;;", "type t ^:= A;;",
	} {
		wrong(t, text)
	}
	parses(t, "exception E;;", "Exn E@0")
	parses(t, " exception E of int * 'a;;", "Exn E@1(TypePair@16(TypeName int@16, TypeVar a@22))")
	for _, text := range []string{"exception ^", "exception ^e;;", "exception ^;;", "exception E ^| F;;", "exception E of ^;;", "exception E of ^E;;", "exception E ^= F;;", "exception E ^int;;", "exception ^\"E\";;"} {
		wrong(t, text)
	}
	parses(t, "let x, y = 1, 2; 3;;", "Let@0(Pair@4(Var x@4, Var y@7), Seq@11(Pair@11(Int 1@11, Int 2@14), Int 3@17))")
	parses(t, "let A x = y;;", "Let@0(Con A@4(Var x@6), Var y@10)")
	parses(t, "let (x) = (y);;", "Let@0(Var x@5, Var y@11)")
	for _, text := range []string{"let ^", "let ^= 1;;", "let x ^", "let x ^;;", "let x ^y = 1;;", "let x = ^", "let x = ^;;", "let x = 1 = 2 ^= 3;;", "let x = 1 ^in 2;;", "let x = let y = 1 ^;;", "let ^in x = 1;;", "let x ^-> 1;;", "let ^\"x\" = 1;;", "let x ^:= 1;;"} {
		wrong(t, text)
	}
}

func TestRec(t *testing.T) {
	parses(t, "let rec f = fun x -> f x;;", "Rec@0(Bind f@8(Fun@12(Var x@16, Call@21(Var f@21, Var x@23))))")
	parses(t, "let rec f = fun (x, y) -> 1; 2 and g = fun _ -> 3;;", "Rec@0(Bind f@8(Fun@12(Pair@17(Var x@17, Var y@20), Seq@26(Int 1@26, Int 2@29))), Bind g@35(Fun@39(Any@43, Int 3@48)))")
	expression(t, "let rec f = fun A x, y -> 1 and g = fun () -> 2 in f; g", "Rec@0(Bind f@8(Fun@12(Pair@16(Con A@16(Var x@18), Var y@21), Int 1@26)), Bind g@32(Fun@36(Unit@40, Int 2@46)), Seq@51(Var f@51, Var g@54))")
	// The and belongs to the last one that has no in yet.
	parses(t, "let rec f = fun x -> let rec g = fun y -> y and h = fun z -> z in g and k = fun w -> w;;", "Rec@0(Bind f@8(Fun@12(Var x@16, Rec@21(Bind g@29(Fun@33(Var y@37, Var y@42)), Bind h@48(Fun@52(Var z@56, Var z@61)), Var g@66))), Bind k@72(Fun@76(Var w@80, Var w@85)))")
	for _, text := range []string{
		"let rec ^", "let rec ^= fun x -> x;;", "let rec ^rec f = fun x -> x;;", "let rec ^F = fun x -> x;;", "let rec ^_ = fun x -> x;;", "let rec ^(f) = fun x -> x;;", "let rec f ^fun x -> x;;", "let rec f = ^x;;", "let rec f = ^(fun x -> x);;", "let rec f = ^;;",
		"let rec f = fun ^-> x;;", "let rec f = fun x ^= x;;", "let rec f = fun x ^y -> x;;", "let rec f = fun x -> ^;;", "let rec f = fun x -> x and ^;;", "let rec f = fun x -> x and ^rec g = fun y -> y;;", "let rec f = fun x -> x and g = ^1;;",
		"let rec f = fun x -> x ^in f;;", "let x = let rec f = fun x -> x ^;;", "let x = let rec f = fun x -> x in ^;;", "let rec f = fun x -> x, ^and g = fun y -> y;;", "let rec f = fun x -> x ^| y -> y;;",
	} {
		wrong(t, text)
	}
}

func TestTypes(t *testing.T) {
	typed(t, "'a", "TypeVar a@0")
	typed(t, "t", "TypeName t@0")
	typed(t, "(t)", "TypeName t@1")
	typed(t, "(('a))", "TypeVar a@2")
	typed(t, "'a t", "TypeName t@0(TypeVar a@0)")
	typed(t, "('a) t", "TypeName t@1(TypeVar a@1)")
	typed(t, "t u v", "TypeName v@0(TypeName u@0(TypeName t@0))")
	typed(t, "('a, t) u", "TypeName u@0(TypeVar a@1, TypeName t@5)")
	typed(t, "((a), b, (c)) u v", "TypeName v@0(TypeName u@0(TypeName a@2, TypeName b@6, TypeName c@10))")
	typed(t, "(a * b -> c, d) u", "TypeName u@0(TypeFun@1(TypePair@1(TypeName a@1, TypeName b@5), TypeName c@10), TypeName d@13)")
	typed(t, "a -> b -> c", "TypeFun@0(TypeName a@0, TypeFun@5(TypeName b@5, TypeName c@10))")
	typed(t, "(a -> b) -> c", "TypeFun@1(TypeFun@1(TypeName a@1, TypeName b@6), TypeName c@12)")
	typed(t, "a * b * c", "TypePair@0(TypeName a@0, TypePair@4(TypeName b@4, TypeName c@8))")
	typed(t, "(a * b) * c", "TypePair@1(TypePair@1(TypeName a@1, TypeName b@5), TypeName c@10)")
	typed(t, "a * b -> c * d", "TypeFun@0(TypePair@0(TypeName a@0, TypeName b@4), TypePair@9(TypeName c@9, TypeName d@13))")
	typed(t, "a * (b -> c) d", "TypePair@0(TypeName a@0, TypeName d@5(TypeFun@5(TypeName b@5, TypeName c@10)))")
	for _, text := range []string{
		"^", "(^)", "(a ^", "(a b^", "(a b ^;;", "(^) a", "(a, ^)", "(a, b) ^", "(a, b) ^;;", "(a, b) ^* c", "(a, b) ^'a", "(a ^; b)", "a ^, b", "a ^'b", "'a ^'b", "a ^(b)", "a * ^", "a * ^* b", "a -> ^", "a -> ^-> b", "^-> a", "^* a", "^A", "a ^A", "^_", "^1", "a ^= b", "a t ^(", "^\"a\"", "(a ^-)", "a ^\"b\"", "(a, b ^",
	} {
		wrong(t, "exception E of "+text)
	}
}

func TestPatterns(t *testing.T) {
	pattern(t, "_", "Any@0")
	pattern(t, "x", "Var x@0")
	pattern(t, "_x", "Var _x@0")
	pattern(t, "()", "Unit@0")
	pattern(t, "( )", "Unit@0")
	pattern(t, "(())", "Unit@1")
	pattern(t, "true", "Bool 1@0")
	pattern(t, "false", "Bool 0@0")
	pattern(t, "A", "Con A@0")
	pattern(t, "(A)", "Con A@1")
	pattern(t, "A x", "Con A@0(Var x@2)")
	pattern(t, "A B", "Con A@0(Con B@2)")
	pattern(t, "A (B C)", "Con A@0(Con B@3(Con C@5))")
	pattern(t, "A _, B ()", "Pair@0(Con A@0(Any@2), Con B@5(Unit@7))")
	pattern(t, "A true, B false, C 1, D -1", "Pair@0(Con A@0(Bool 1@2), Pair@8(Con B@8(Bool 0@10), Pair@17(Con C@17(Int 1@19), Con D@22(Int -1@24))))")
	pattern(t, "x, y, z", "Pair@0(Var x@0, Pair@3(Var y@3, Var z@6))")
	pattern(t, "(x, y), z", "Pair@1(Pair@1(Var x@1, Var y@4), Var z@8)")
	pattern(t, "((((x))), A (y, _))", "Pair@4(Var x@4, Con A@10(Pair@13(Var y@13, Any@16)))")
	for text, n := range map[string]string{"0": "0", "7": "7", "-7": "-7", "- 7": "-7", "-0": "0", "1073741823": "1073741823", "-1073741823": "-1073741823", "1073741824": "-1073741824", "-1073741824": "-1073741824", "2147483647": "-1", "-2147483647": "1", "-1073741825": "1073741823", "-2147483646": "2"} {
		pattern(t, text, "Int "+n+"@0")
		pattern(t, "A "+text, "Con A@0(Int "+n+"@2)")
	}
	for _, text := range []string{
		"^;;", "(^;;", "(^,x) = 1;;", "(x ^= 1;;", "(x, ^) = 1;;", "x, ^= 1;;", "x ^y = 1;;", "A x ^y = 1;;", "A B ^C = 1;;", "A B ^x = 1;;", "x ^A = 1;;", "- ^x = 1;;", "- ^- 1 = 1;;", "-^(1) = 1;;", "1 ^2 = 1;;", "() ^() = 1;;", "_ ^_ = 1;;", "^! x = 1;;", "^\"a\" = 1;;", "A ^\"a\" = 1;;", "^begin x end = 1;;",
		"^'a = 1;;", "A ^'a = 1;;", "A A, ^= 1;;", "^+ 1 = 1;;", "(A ^* B) = 1;;", "x^; y = 1;;", "A ^| B = 1;;", "(1 ^+ 2) = 1;;", "^fun = 1;;", "true ^x = 1;;",
	} {
		wrong(t, "let "+text)
	}
}

func TestFaultsOfLex(t *testing.T) {
	refuses(t, `let x = "a`, api.ErrText, 8)
	refuses(t, `x "a`, api.ErrText, 2)
	refuses(t, "let let let #", api.ErrByte, 12)
	refuses(t, "x (*", api.ErrNote, 2)
	refuses(t, "x \xff", api.ErrUTF, 2)
	refuses(t, "let x = 2147483648 ;;", api.ErrNumber, 8)
	refuses(t, ") "+times("x", 65), api.ErrName, 2)
	refuses(t, times(" ", 65537), api.ErrLong, 0)
	refuses(t, times("(", 65537), api.ErrLong, 0)
	refuses(t, "let _ = "+times("- ", 2000)+"é", api.ErrByte, 4008)
	accepts(t, times(" ", 65536))
	accepts(t, "exception E;;"+times(" ", 65523))
	refuses(t, "exception E;"+times(" ", 65524), api.ErrSyntax, 11)
	refuses(t, "exception E"+times(" ", 65525), api.ErrSyntax, 65536)
}
