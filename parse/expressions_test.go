package parse

import "testing"

func TestAtoms(t *testing.T) {
	expression(t, "1", "Int 1@0")
	expression(t, "0", "Int 0@0")
	expression(t, "1073741823", "Int 1073741823@0")
	expression(t, "1073741824", "Int -1073741824@0")
	expression(t, "2147483647", "Int -1@0")
	expression(t, `"a"`, "Text a@0")
	expression(t, `""`, "Text @0")
	expression(t, `"\000\255\n"`, "Text \x00\xff\n@0")
	expression(t, "()", "Unit@0")
	expression(t, "( (**) )", "Unit@0")
	expression(t, "true", "Bool 1@0")
	expression(t, "false", "Bool 0@0")
	expression(t, "x", "Var x@0")
	expression(t, "A", "Con A@0")
	expression(t, "(x)", "Var x@1")
	expression(t, "begin x end", "Var x@6")
	expression(t, "((x))", "Var x@2")
	expression(t, "(begin (()) end)", "Unit@8")
	for _, text := range []string{"^", "(^", "(x ^", "(x ^;;", "(x ^end", "begin ^", "begin ^end", "begin x ^", "begin x ^)", "^)", "^end", "^_", "^'a", "^->", "^|", "^;", "^:=", "^,", "^=", "^<=", "^+", "^*", "^mod 2", "^rec", "^in", "^of", "^then", "^type", "^exception", "^and"} {
		wrong(t, "let _ = "+text)
	}
	// A text is no sign and no key, whatever it says.
	expression(t, `f "(" ")" ";" ";;" "+" "in" "-" "mod" ":=" "," "="`, "Call@0(Call@0(Call@0(Call@0(Call@0(Call@0(Call@0(Call@0(Call@0(Call@0(Call@0(Var f@0, Text (@2), Text )@6), Text ;@10), Text ;;@14), Text +@19), Text in@23), Text -@28), Text mod@32), Text :=@38), Text ,@43), Text =@47)")
	expression(t, `"let" "fun" "if" "raise" "begin" "true" "!"`, "Call@0(Call@0(Call@0(Call@0(Call@0(Call@0(Text let@0, Text fun@6), Text if@12), Text raise@17), Text begin@25), Text true@33), Text !@40)")
}

func TestCalls(t *testing.T) {
	expression(t, "f x", "Call@0(Var f@0, Var x@2)")
	expression(t, "f x y z", "Call@0(Call@0(Call@0(Var f@0, Var x@2), Var y@4), Var z@6)")
	expression(t, "f (x y) z", "Call@0(Call@0(Var f@0, Call@3(Var x@3, Var y@5)), Var z@8)")
	expression(t, "(f x) y", "Call@1(Call@1(Var f@1, Var x@3), Var y@6)")
	expression(t, "f()1true\"a\"A begin y end", "Call@0(Call@0(Call@0(Call@0(Call@0(Call@0(Var f@0, Unit@1), Int 1@3), Bool 1@4), Text a@8), Con A@11), Var y@19)")
	expression(t, "1 2", "Call@0(Int 1@0, Int 2@2)")
	expression(t, "() ()", "Call@0(Unit@0, Unit@3)")
	expression(t, "f A 1", "Call@0(Call@0(Var f@0, Con A@2), Int 1@4)")
	expression(t, "f - 1", "Op -@0(Var f@0, Int 1@4)")
	expression(t, "f -1", "Op -@0(Var f@0, Int 1@3)")
	expression(t, "A", "Con A@0")
	expression(t, "A x", "Con A@0(Var x@2)")
	expression(t, "A B", "Con A@0(Con B@2)")
	expression(t, "A (B C)", "Con A@0(Con B@3(Con C@5))")
	expression(t, "A (x, y)", "Con A@0(Pair@3(Var x@3, Var y@6))")
	expression(t, "A begin x end", "Con A@0(Var x@8)")
	expression(t, "(A) 1", "Call@1(Con A@1, Int 1@4)")
	expression(t, "(A 1) 2", "Call@1(Con A@1(Int 1@3), Int 2@6)")
	expression(t, "A -1", "Op -@0(Con A@0, Int 1@3)")
	expression(t, "raise E", "Raise@0(Con E@6)")
	expression(t, "raise (E 1)", "Raise@0(Con E@7(Int 1@9))")
	expression(t, "raise x", "Raise@0(Var x@6)")
	expression(t, "raise begin raise E end", "Raise@0(Raise@12(Con E@18))")
	expression(t, "f (raise E)", "Call@0(Var f@0, Raise@3(Con E@9))")
	for _, text := range []string{"A 1 ^2", "A B ^C", "A B ^1", "A x ^y;;", "raise ^", "raise ^raise E", "raise E ^1", "raise x ^y", "raise ^- 1", "raise ^!x", "raise ^fun x -> x", "f ^raise E", "f ^!x", "f ^fun x -> x", "f ^let x = 1 in x", "f ^if x then y else z", "f ^_", "f ^'a", "A ^raise E", "A ^!x", "f x ^in", "A ^fun x -> x", "A ^_"} {
		wrong(t, "let _ = "+text)
	}
}

func TestPrefixes(t *testing.T) {
	expression(t, "-1", "Neg@0(Int 1@1)")
	expression(t, "- - x", "Neg@0(Neg@2(Var x@4))")
	expression(t, "!x", "Get@0(Var x@1)")
	expression(t, "!!x", "Get@0(Get@1(Var x@2))")
	expression(t, "-!-x", "Neg@0(Get@1(Neg@2(Var x@3)))")
	expression(t, "!f x", "Get@0(Call@1(Var f@1, Var x@3))")
	expression(t, "-A x", "Neg@0(Con A@1(Var x@3))")
	expression(t, "-raise E", "Neg@0(Raise@1(Con E@7))")
	expression(t, "- x * y", "Op *@0(Neg@0(Var x@2), Var y@6)")
	expression(t, "-(x * y)", "Neg@0(Op *@2(Var x@2, Var y@6))")
	expression(t, "- -2147483647", "Neg@0(Neg@2(Int -1@3))")
	expression(t, "x - - y", "Op -@0(Var x@0, Neg@4(Var y@6))")
	expression(t, "x --y", "Op -@0(Var x@0, Neg@3(Var y@4))")
	for _, text := range []string{"- ^", "! ^", "- ^+ x", "-^) x", "! ^let x = 1 in x", "- ^fun x -> x", "- ^if x then y else z", "! ^match x with y -> y", "x * - ^;;", "-^->x"} {
		wrong(t, "let _ = "+text)
	}
}

func TestOperators(t *testing.T) {
	for _, s := range []string{"+", "-", "*", "/", "=", "<", "<=", "mod"} {
		expression(t, "x "+s+"\ty", "Op "+s+"@0(Var x@0, Var y@"+[]string{"4", "5", "6"}[len(s)-1]+")")
		wrong(t, "let _ = x "+s+" ^")
		wrong(t, "let _ = x "+s+" ^;;")
		wrong(t, "let _ = x "+s+" ^* y;;")
		wrong(t, "let _ = x "+s+" ^fun y -> y;;")
		if s != "-" {
			wrong(t, "let _ = ^"+s+" x;;")
		}
	}
	expression(t, "1 + 2 - 3 + 4", "Op +@0(Op -@0(Op +@0(Int 1@0, Int 2@4), Int 3@8), Int 4@12)")
	expression(t, "1 * 2 / 3 mod 4", "Op mod@0(Op /@0(Op *@0(Int 1@0, Int 2@4), Int 3@8), Int 4@14)")
	expression(t, "1 mod 2 / 3 * 4", "Op *@0(Op /@0(Op mod@0(Int 1@0, Int 2@6), Int 3@10), Int 4@14)")
	expression(t, "1 + 2 * 3 - 4", "Op -@0(Op +@0(Int 1@0, Op *@4(Int 2@4, Int 3@8)), Int 4@12)")
	expression(t, "1 - (2 - 3)", "Op -@0(Int 1@0, Op -@5(Int 2@5, Int 3@9))")
	expression(t, "(1 + 2) * 3", "Op *@1(Op +@1(Int 1@1, Int 2@5), Int 3@10)")
	expression(t, "1 + 2 = 3 * 4", "Op =@0(Op +@0(Int 1@0, Int 2@4), Op *@8(Int 3@8, Int 4@12))")
	expression(t, "(1 = 2) <= (3 < 4)", "Op <=@1(Op =@1(Int 1@1, Int 2@5), Op <@12(Int 3@12, Int 4@16))")
	expression(t, "x + f y * !z", "Op +@0(Var x@0, Op *@4(Call@4(Var f@4, Var y@6), Get@10(Var z@11)))")
	expression(t, "x=y, z<w", "Pair@0(Op =@0(Var x@0, Var y@2), Op <@5(Var z@5, Var w@7))")
	for _, a := range []string{"=", "<", "<="} {
		for _, b := range []string{"=", "<", "<="} {
			wrong(t, "let _ = 1 "+a+" 2 ^"+b+" 3;;")
			wrong(t, "let _ = 1 "+a+" ^"+b+" 3;;")
		}
	}
	wrong(t, "let _ = x + ^mod;;")
}

func TestPairsAndSets(t *testing.T) {
	expression(t, "x, y", "Pair@0(Var x@0, Var y@3)")
	expression(t, "x, y, z", "Pair@0(Var x@0, Pair@3(Var y@3, Var z@6))")
	expression(t, "(x, y), z", "Pair@1(Pair@1(Var x@1, Var y@4), Var z@8)")
	expression(t, "x := y", "Set@0(Var x@0, Var y@5)")
	expression(t, "x := y := z", "Set@0(Var x@0, Set@5(Var y@5, Var z@10))")
	expression(t, "(x := y) := z", "Set@1(Set@1(Var x@1, Var y@6), Var z@12)")
	expression(t, "x, y := z, w", "Set@0(Pair@0(Var x@0, Var y@3), Pair@8(Var z@8, Var w@11))")
	expression(t, "x = y := z = w", "Set@0(Op =@0(Var x@0, Var y@4), Op =@9(Var z@9, Var w@13))")
	expression(t, "x := fun y -> y", "Set@0(Var x@0, Fun@5(Var y@9, Var y@14))")
	expression(t, "x := if y then z else w", "Set@0(Var x@0, If@5(Var y@8, Var z@15, Var w@22))")
	expression(t, "x := let y = 1 in y; z", "Set@0(Var x@0, Let@5(Var y@9, Int 1@13, Seq@18(Var y@18, Var z@21)))")
	expression(t, "x := y; z", "Seq@0(Set@0(Var x@0, Var y@5), Var z@8)")
	for _, text := range []string{"x, ^", "x, ^, y", "x, ^fun y -> y", "x, ^let y = 1 in y", "x, ^if y then z else w", "x := ^", "x := ^:= y", "x := ^;;", "fun x -> x, ^;;"} {
		wrong(t, "let _ = "+text)
	}
}

func TestSeqs(t *testing.T) {
	expression(t, "x; y", "Seq@0(Var x@0, Var y@3)")
	expression(t, "x; y; z", "Seq@0(Var x@0, Seq@3(Var y@3, Var z@6))")
	expression(t, "(x; y); z", "Seq@1(Seq@1(Var x@1, Var y@4), Var z@8)")
	expression(t, "begin x; y end; z", "Seq@6(Seq@6(Var x@6, Var y@9), Var z@16)")
	expression(t, "x; fun y -> y; z", "Seq@0(Var x@0, Fun@3(Var y@7, Seq@12(Var y@12, Var z@15)))")
	expression(t, "if x then y else z; w", "Seq@0(If@0(Var x@3, Var y@10, Var z@17), Var w@20)")
	for _, text := range []string{"x; ^", "x; ^;;", "x; ^; y", "begin x; ^end", "(x; ^)", "^; x"} {
		wrong(t, "let _ = "+text)
	}
}

func TestLetFunIf(t *testing.T) {
	expression(t, "let y = 1 in y", "Let@0(Var y@4, Int 1@8, Var y@13)")
	expression(t, "let A y, _ = 1; 2 in 3; 4", "Let@0(Pair@4(Con A@4(Var y@6), Any@9), Seq@13(Int 1@13, Int 2@16), Seq@21(Int 3@21, Int 4@24))")
	expression(t, "let y = let z = 1 in z in y", "Let@0(Var y@4, Let@8(Var z@12, Int 1@16, Var z@21), Var y@26)")
	expression(t, "let y = 1 in let z = 2 in y", "Let@0(Var y@4, Int 1@8, Let@13(Var z@17, Int 2@21, Var y@26))")
	expression(t, "let rec f = fun y -> y in f", "Rec@0(Bind f@8(Fun@12(Var y@16, Var y@21)), Var f@26)")
	expression(t, "fun x -> x", "Fun@0(Var x@4, Var x@9)")
	expression(t, "fun (x, y) -> fun _ -> x; y", "Fun@0(Pair@5(Var x@5, Var y@8), Fun@14(Any@18, Seq@23(Var x@23, Var y@26)))")
	expression(t, "fun x, A y -> x", "Fun@0(Pair@4(Var x@4, Con A@7(Var y@9)), Var x@14)")
	expression(t, "if x then y else z", "If@0(Var x@3, Var y@10, Var z@17)")
	expression(t, "if x; y then z, w else u := v", "If@0(Seq@3(Var x@3, Var y@6), Pair@13(Var z@13, Var w@16), Set@23(Var u@23, Var v@28))")
	expression(t, "if x then if y then 1 else 2 else if z then 3 else 4", "If@0(Var x@3, If@10(Var y@13, Int 1@20, Int 2@27), If@34(Var z@37, Int 3@44, Int 4@51))")
	expression(t, "if let y = 1 in y; z then fun x -> x; y else fun x -> x; y", "If@0(Let@3(Var y@7, Int 1@11, Seq@16(Var y@16, Var z@19)), Fun@26(Var x@30, Seq@35(Var x@35, Var y@38)), Fun@45(Var x@49, Seq@54(Var x@54, Var y@57)))")
	expression(t, "if x then let y = 1 in y; 2 else 3", "If@0(Var x@3, Let@10(Var y@14, Int 1@18, Seq@23(Var y@23, Int 2@26)), Int 3@33)")
	expression(t, "(if x then y else z) w", "Call@1(If@1(Var x@4, Var y@11, Var z@18), Var w@21)")
	for _, text := range []string{
		"let ^", "let ^= 1 in 2", "let y ^1", "let y = ^in 2", "let y = 1 ^", "let y = 1 ^;;", "let y = 1 ^and z = 2 in 3", "let y = 1 in ^", "let y = 1 in ^in 2", "let rec y ^, z = 1", "let y = 1 in y ^in z",
		"fun ^", "fun ^-> x", "fun x ^", "fun x ^y -> x", "fun x ^= x", "fun x -> ^", "fun x -> ^;;", "fun ^rec x -> x",
		"if ^", "if ^then x else y", "if x ^", "if x ^else y", "if x ^;;", "if x then ^", "if x then ^else y", "if x then y ^", "if x then y ^;;", "if x then y ^; z else w", "if x then y else ^", "if x then y else ^;;", "if x then y else z ^else w", "if x then y ^then z else w", "1 + ^if x then y else z",
	} {
		wrong(t, "let _ = "+text)
	}
}

func TestMatchTry(t *testing.T) {
	expression(t, "match x with y -> z", "Match@0(Var x@6, Case@13(Var y@13, Var z@18))")
	expression(t, "try x with y -> z", "Try@0(Var x@4, Case@11(Var y@11, Var z@16))")
	expression(t, "match x with | y -> z", "Match@0(Var x@6, Case@15(Var y@15, Var z@20))")
	expression(t, "try x with | y -> z | _ -> w", "Try@0(Var x@4, Case@13(Var y@13, Var z@18), Case@22(Any@22, Var w@27))")
	expression(t, "match x; y with A, (B) -> 1; 2 | (C, -1) -> 3", "Match@0(Seq@6(Var x@6, Var y@9), Case@16(Pair@16(Con A@16, Con B@20), Seq@26(Int 1@26, Int 2@29)), Case@34(Pair@34(Con C@34, Int -1@37), Int 3@44))")
	expression(t, "match x with (y) -> z", "Match@0(Var x@6, Case@14(Var y@14, Var z@20))")
	expression(t, "match x with A -> match y with B -> 1 | C -> 2", "Match@0(Var x@6, Case@13(Con A@13, Match@18(Var y@24, Case@31(Con B@31, Int 1@36), Case@40(Con C@40, Int 2@45))))")
	expression(t, "match x with A -> (match y with B -> 1) | C -> 2", "Match@0(Var x@6, Case@13(Con A@13, Match@19(Var y@25, Case@32(Con B@32, Int 1@37))), Case@42(Con C@42, Int 2@47))")
	expression(t, "match x with A -> try y with B -> 1 | C -> 2", "Match@0(Var x@6, Case@13(Con A@13, Try@18(Var y@22, Case@29(Con B@29, Int 1@34), Case@38(Con C@38, Int 2@43))))")
	expression(t, "try match x with A -> 1 with B -> 2", "Try@0(Match@4(Var x@10, Case@17(Con A@17, Int 1@22)), Case@29(Con B@29, Int 2@34))")
	expression(t, "match try x with A -> 1 with B -> fun y -> y | C -> 2", "Match@0(Try@6(Var x@10, Case@17(Con A@17, Int 1@22)), Case@29(Con B@29, Fun@34(Var y@38, Var y@43)), Case@47(Con C@47, Int 2@52))")
	for _, text := range []string{
		"match ^", "match ^with y -> z", "match x ^", "match x ^;;", "match x ^| y -> z", "match x with ^", "match x with ^;;", "match x with ^-> y", "match x with | ^| y -> z", "match x with y ^", "match x with y ^= z", "match x with y ^| z -> w", "match x with y -> ^", "match x with y -> ^| z -> w",
		"match x with y -> z | ^", "match x with y -> z | ^;;", "match x with y -> z ^end", "try ^", "try x ^;;", "try x with ^", "try x ^of", "try x with y -> z ^with w -> u", "x ^| y", "x ^with y -> z", "1 + ^match x with y -> z", "match x with y -> z, ^| w -> u", "match x with (y ^-> z",
	} {
		wrong(t, "let _ = "+text)
	}
	wrong(t, "let _ = try x with y -> (z ^| w -> u);;")
}
