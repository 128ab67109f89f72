package tests

import (
	"math"
	"slices"
	"strconv"
	"strings"
	"testing"

	"loop.example/g00282/impl"
)

func plain(l impl.Arg) impl.Expr { return impl.Expr{L: l} }

func plus(l impl.Arg, r impl.Arg) impl.Expr { return impl.Expr{Op: "+", L: l, R: r} }

func minus(l impl.Arg, r impl.Arg) impl.Expr { return impl.Expr{Op: "-", L: l, R: r} }

func exprs(l ...impl.Expr) []impl.Expr { return l }

func assertAct(name string, args ...impl.Expr) impl.Act {
	return impl.Act{Kind: impl.AcAssert, Name: name, Args: args}
}

func dropAct(n int) impl.Act { return impl.Act{Kind: impl.AcDrop, N: n} }

func taskAct(undo string, name string, args ...impl.Expr) impl.Act {
	return impl.Act{Kind: impl.AcTask, Name: name, Args: args, Undo: undo}
}

func timerAct(n int, name string, args ...impl.Expr) impl.Act {
	return impl.Act{Kind: impl.AcTimer, Name: name, Args: args, N: n}
}

// noSigns are what is no Op of a term.
func noSigns() []string {
	return []string{" ", "*", "/", "=", "#", "<", "->", "++", "--", "+-", "-+", "+ ", " +", "- ", " -", "+\x00", "\x00", "\xff", "\u2212", "\u2212-", "_", "a", "add", "X", "1", "'+'", strings.Repeat("+", 500)}
}

// goodExprs are terms that may be: each side alone, and each on either side of a sign.
func goodExprs() []impl.Expr {
	var l []impl.Expr
	for _, a := range sides() {
		l = append(l, plain(a), plus(a, avar("X")), plus(aval(num(1)), a), minus(a, aval(num(-1))), minus(avar("Y"), a), plus(a, a), minus(a, a))
	}
	return l
}

// wrongExprs are what is no term, each with its reason.
func wrongExprs() map[string]impl.Expr {
	x, one := avar("X"), aval(num(1))
	wrong := map[string]impl.Expr{"nothing": {}, "a right side alone": {R: one}, "an Op alone": {Op: "+"}, "no Op, and two": {L: x, R: one}, "no Op, and the same twice": {L: x, R: x}, "no Op, and anything behind": {L: x, R: aany()}, "no Op, and a left that is none": {L: impl.Arg{}, R: x}}
	for _, op := range noSigns() {
		wrong["an Op of "+op] = impl.Expr{Op: op, L: x, R: one}
		wrong["an Op of "+op+", and no right side"] = impl.Expr{Op: op, L: x}
	}
	for why, a := range wrongSides() {
		wrong["alone: "+why] = plain(a)
		for _, op := range []string{"+", "-"} {
			wrong["on the left of "+op+": "+why] = impl.Expr{Op: op, L: a, R: one}
			wrong["on the right of "+op+": "+why] = impl.Expr{Op: op, L: x, R: a}
			wrong["on both sides of "+op+": "+why] = impl.Expr{Op: op, L: a, R: a}
		}
		if a != (impl.Arg{}) {
			wrong["behind, without an Op: "+why] = impl.Expr{L: x, R: a}
		}
	}
	return wrong
}

// goodActs are acts that may be.
func goodActs() []impl.Act {
	x, sum, five := plain(avar("X")), plus(avar("X"), aval(num(2))), slices.Repeat(exprs(plain(avar("Y"))), 5)
	l := []impl.Act{
		assertAct("a"), {Kind: impl.AcAssert, Name: "a", Args: exprs()}, assertAct(twelve), assertAct("n", x, sum), assertAct("n", five...), assertAct("done"), assertAct("undo", x),
		dropAct(0), dropAct(1), dropAct(6), dropAct(7), {Kind: impl.AcDrop, Args: exprs()},
		taskAct("", "t"), taskAct("u", "t"), taskAct("t", "t"), taskAct("", "t", x), taskAct("u", "t", sum, x), taskAct(twelve, twelve, five...), taskAct("", "t", five...), taskAct("undo", "undo", x),
		timerAct(0, "t"), timerAct(5, "t"), timerAct(99999, "t", x), timerAct(100000, "t", five...), timerAct(100000, twelve, sum), timerAct(0, "timer", x),
		{Kind: impl.AcDone}, {Kind: impl.AcFail}, {Kind: impl.AcDone, Args: exprs()}, {Kind: impl.AcFail, Args: exprs()},
	}
	for _, e := range goodExprs() {
		l = append(l, assertAct("k", e), taskAct("", "k", x, e), taskAct("u", "k", e), timerAct(9, "k", x, x, x, x, e))
	}
	return l
}

// wrongActs are what is no act, each with its reason.
func wrongActs() map[string]impl.Act {
	x := plain(avar("X"))
	wrong := map[string]impl.Act{
		"nothing": {}, "no kind": {Name: "a", Args: exprs(x)}, "an assert of nothing": {Kind: impl.AcAssert}, "a task of nothing": {Kind: impl.AcTask}, "a timer of nothing": {Kind: impl.AcTimer, N: 5},
		"a drop of the 8th": dropAct(8), "a drop below 0": dropAct(-1), "a drop of the greatest": dropAct(math.MaxInt), "a drop of the least": dropAct(math.MinInt), "a drop of 256": dropAct(256), "a drop of 2 to the 32": dropAct(1 << 32),
		"a timer of 100001": timerAct(100001, "t"), "a timer below 0": timerAct(-1, "t"), "the longest timer": timerAct(math.MaxInt, "t"), "the least timer": timerAct(math.MinInt, "t"), "a timer of 2 to the 32": timerAct(1<<32, "t"),
		"a drop with a name": {Kind: impl.AcDrop, Name: "a"}, "a drop with a term": {Kind: impl.AcDrop, Args: exprs(x)}, "a drop with an Undo": {Kind: impl.AcDrop, Undo: "u"}, "a drop with what is no term": {Kind: impl.AcDrop, Args: exprs(impl.Expr{})},
		"an assert with an N": {Kind: impl.AcAssert, Name: "a", N: 1}, "an assert with an N below 0": {Kind: impl.AcAssert, Name: "a", N: -1}, "an assert with an Undo": {Kind: impl.AcAssert, Name: "a", Undo: "u"},
		"a task with an N": {Kind: impl.AcTask, Name: "a", N: 1}, "a task with an N and an Undo": {Kind: impl.AcTask, Name: "a", N: 7, Undo: "u"}, "an Undo without a task": {Kind: impl.AcTask, Undo: "u"},
		"a timer with an Undo": {Kind: impl.AcTimer, Name: "a", N: 5, Undo: "u"}, "a timer of 0 with an Undo": {Kind: impl.AcTimer, Name: "a", Undo: "u"},
	}
	for word, kind := range map[string]int{"done": impl.AcDone, "fail": impl.AcFail} {
		wrong[word+" with a name"] = impl.Act{Kind: kind, Name: word}
		wrong[word+" with a term"] = impl.Act{Kind: kind, Args: exprs(x)}
		wrong[word+" with what is no term"] = impl.Act{Kind: kind, Args: exprs(impl.Expr{})}
		wrong[word+" with an N"] = impl.Act{Kind: kind, N: 1}
		wrong[word+" with an N below 0"] = impl.Act{Kind: kind, N: -1}
		wrong[word+" with an Undo"] = impl.Act{Kind: kind, Undo: "u"}
	}
	for _, kind := range []int{-1, 0, 7, 8, 100, 256 + impl.AcDone, 1<<32 + impl.AcFail, math.MinInt, math.MaxInt} {
		wrong["a kind of "+strconv.Itoa(kind)] = impl.Act{Kind: kind}
		wrong["a kind of "+strconv.Itoa(kind)+", with all"] = impl.Act{Kind: kind, Name: "a", Args: exprs(x), N: 1, Undo: "u"}
	}
	for _, name := range []string{"", "A", "1a", "_", "a b", " a", "a ", "a(", "\x00", "a\xff", "\u00e4", twelve + "a", strings.Repeat("a", 5000)} {
		wrong["an assert of "+name] = assertAct(name, x)
		wrong["a task of "+name] = taskAct("", name, x)
		wrong["a timer of "+name] = timerAct(5, name, x)
		if name != "" {
			wrong["an Undo of "+name] = taskAct(name, "t", x)
		}
	}
	for word, of := range actsOf() {
		wrong[word+" with 6 terms"] = of(slices.Repeat(exprs(x), 6)...)
		wrong[word+" with many terms"] = of(slices.Repeat(exprs(x), 900)...)
		for why, e := range wrongExprs() {
			wrong[word+", one term: "+why] = of(e)
			wrong[word+", the first of five: "+why] = of(e, x, x, x, x)
			wrong[word+", the last of five: "+why] = of(x, x, x, x, e)
		}
	}
	return wrong
}

// actsOf are the acts that have terms, by what they begin with.
func actsOf() map[string]func(...impl.Expr) impl.Act {
	return map[string]func(...impl.Expr) impl.Act{
		"assert":  func(args ...impl.Expr) impl.Act { return assertAct("k", args...) },
		"task":    func(args ...impl.Expr) impl.Act { return taskAct("", "k", args...) },
		"timer 5": func(args ...impl.Expr) impl.Act { return timerAct(5, "k", args...) },
	}
}

func checkCompute(t *testing.T, want impl.Val, e impl.Expr, l []impl.Bind) {
	t.Helper()
	if v, ok := impl.Compute(e, l); !ok || v != want {
		t.Errorf("%v, %v: %v %v, not %v", e, l, v, ok, want)
	}
	if vs, ok := impl.ComputeAll(exprs(e), l); !ok || !slices.Equal(vs, []impl.Val{want}) {
		t.Errorf("all of %v, %v: %v %v, not %v", e, l, vs, ok, want)
	}
}

func checkComputesNothing(t *testing.T, e impl.Expr, l []impl.Bind) {
	t.Helper()
	if v, ok := impl.Compute(e, l); ok || v != (impl.Val{}) {
		t.Errorf("%v, %v: %v %v", e, l, v, ok)
	}
	if vs, ok := impl.ComputeAll(exprs(e), l); ok || len(vs) != 0 {
		t.Errorf("all of %v, %v: %v %v", e, l, vs, ok)
	}
}

func TestKindsOfActs(t *testing.T) {
	kinds := []int{impl.AcAssert, impl.AcDrop, impl.AcTask, impl.AcTimer, impl.AcDone, impl.AcFail}
	if !slices.Equal(kinds, []int{1, 2, 3, 4, 5, 6}) {
		t.Error(kinds)
	}
}

func TestExprOk(t *testing.T) { checkOks(t, impl.ExprOk, goodExprs(), wrongExprs()) }

// What is right on the one side does not make up for the other.
func TestExprOkOfEachMixture(t *testing.T) {
	right := map[impl.Arg]bool{}
	for _, a := range sides() {
		right[a] = true
	}
	all := append(sides(), inOrder(wrongSides())...)
	for _, l := range all {
		for _, r := range all {
			for _, op := range append(noSigns()[:4], "", "+", "-") {
				want := right[l] && (op == "" && r == impl.Arg{} || (op == "+" || op == "-") && right[r])
				if e := (impl.Expr{Op: op, L: l, R: r}); impl.ExprOk(e) != want || (impl.ExprText(e) != "") != want {
					t.Errorf("%v: %v %q", e, impl.ExprOk(e), impl.ExprText(e))
				}
			}
		}
	}
}

func TestExprOkOfEachByteAsOp(t *testing.T) {
	for c := range 256 {
		for _, op := range []string{string([]byte{byte(c)}), "+" + string([]byte{byte(c)}), string([]byte{byte(c)}) + "-"} {
			e := impl.Expr{Op: op, L: avar("X"), R: aval(num(2))}
			if want := op == "+" || op == "-"; impl.ExprOk(e) != want || (impl.ExprText(e) != "") != want {
				t.Errorf("%q: %v", op, !want)
			}
			if _, ok := impl.Compute(e, boundXY(num(1), num(2))); ok != (op == "+" || op == "-") {
				t.Errorf("%q is computed: %v", op, ok)
			}
		}
	}
}

func TestExprTexts(t *testing.T) {
	x, y, two := avar("X"), avar("Y"), aval(num(2))
	checkTexts(t, impl.ExprText, map[string]impl.Expr{
		"X": plain(x), "2": plain(two), "-2": plain(aval(num(-2))), "0": plain(aval(num(0))), "''": plain(aval(txt(""))), "'2'": plain(aval(txt("2"))), twelveVar: plain(avar(twelveVar)),
		"X + 2": plus(x, two), "2 + X": plus(two, x), "X - 2": minus(x, two), "2 - X": minus(two, x), "X + Y": plus(x, y), "Y - X": minus(y, x), "X - X": minus(x, x),
		"-2 + 2": plus(aval(num(-2)), two), "2 + -2": plus(two, aval(num(-2))), "-2 - -2": minus(aval(num(-2)), aval(num(-2))), "X - -1": minus(x, aval(num(-1))), "0 - 2": minus(aval(num(0)), two),
		"'a' + 'b'":                        plus(aval(txt("a")), aval(txt("b"))),
		"'" + twenty + "' - " + twelveVar:  minus(aval(txt(twenty)), avar(twelveVar)),
		"-1000000000 + 1000000000":         plus(aval(num(-impl.MaxInt)), aval(num(impl.MaxInt))),
		"1000000000 - -1000000000":         minus(aval(num(impl.MaxInt)), aval(num(-impl.MaxInt))),
		twelveVar + " + " + twelveVar[:11]: plus(avar(twelveVar), avar(twelveVar[:11])),
	}, wrongExprs())
}

// A term's text is what a pattern has of its arguments, with its sign between, and tells it apart from all others.
func TestExprTextsOfEachTwoSides(t *testing.T) {
	want := map[string]impl.Expr{}
	for _, l := range sides() {
		want[textInPat(l)] = plain(l)
		for _, r := range sides() {
			want[textInPat(l)+" + "+textInPat(r)] = plus(l, r)
			want[textInPat(l)+" - "+textInPat(r)] = minus(l, r)
		}
	}
	if n := len(sides()); len(want) != n+2*n*n {
		t.Error(len(want), n)
	}
	checkTexts(t, impl.ExprText, want, nil)
}

func TestTokensOfExprTexts(t *testing.T) {
	x, two, less := avar("Xy_1"), aval(num(2)), aval(num(-2))
	checkLex(t, impl.ExprText(plain(x)), kvar("Xy_1"))
	checkLex(t, impl.ExprText(plain(less)), kmark("-"), kint(2))
	checkLex(t, impl.ExprText(plain(aval(txt("a_1")))), ktext("a_1"))
	checkLex(t, impl.ExprText(plus(x, two)), kvar("Xy_1"), kmark("+"), kint(2))
	checkLex(t, impl.ExprText(minus(two, x)), kint(2), kmark("-"), kvar("Xy_1"))
	checkLex(t, impl.ExprText(minus(less, less)), kmark("-"), kint(2), kmark("-"), kmark("-"), kint(2))
	checkLex(t, impl.ExprText(plus(two, less)), kint(2), kmark("+"), kmark("-"), kint(2))
	checkLex(t, impl.ExprText(minus(aval(txt("")), two)), ktext(""), kmark("-"), kint(2))
}

func TestComputeWithoutAnOp(t *testing.T) {
	for _, v := range goodVals() {
		for _, l := range boundAhead() {
			checkCompute(t, v, plain(aval(v)), l)
		}
		checkCompute(t, v, plain(avar("X")), boundXY(v, num(3)))
		checkCompute(t, v, plain(avar("Y")), boundXY(num(3), v))
		checkCompute(t, v, plain(avar("X")), binds(bind("X", v), bind("X", num(3))))
	}
	for _, l := range boundAhead() {
		checkComputesNothing(t, plain(avar("V")), l)
	}
	all := binds(bind("X", num(1)), bind("Y", num(2)))
	checkComputesNothing(t, plain(avar("Y")), all[:1])
	checkComputesNothing(t, plain(avar("X")), all[:0])
}

func TestComputeSumsAndDifferences(t *testing.T) {
	for _, z := range []struct{ a, b, sum, difference int }{
		{2, 3, 5, -1}, {3, 2, 5, 1}, {-2, 3, 1, -5}, {2, -3, -1, 5}, {-2, -3, -5, 1}, {-3, -2, -5, -1}, {0, 0, 0, 0}, {0, 7, 7, -7}, {7, 0, 7, 7}, {0, -7, -7, 7}, {-7, 0, -7, -7}, {1, -1, 0, 2}, {-1, 1, 0, -2}, {7, 7, 14, 0}, {-7, -7, -14, 0}, {99, -1, 98, 100}, {-100, 1, -99, -101},
	} {
		a, b := num(z.a), num(z.b)
		twoSides(a, b, func(l impl.Arg, r impl.Arg) {
			checkCompute(t, num(z.sum), plus(l, r), boundXY(a, b))
			checkCompute(t, num(z.difference), minus(l, r), boundXY(a, b))
		})
	}
}

func TestComputeAtTheBoundsOfAValue(t *testing.T) {
	const most = impl.MaxInt
	for _, z := range []struct {
		a, b int
		op   string
		want int
	}{
		{most, 0, "+", most}, {0, most, "+", most}, {most - 1, 1, "+", most}, {1, most - 1, "+", most}, {-most, 0, "+", -most}, {-1, 1 - most, "+", -most}, {1 - most, -1, "+", -most}, {most, -most, "+", 0}, {-most, most, "+", 0}, {most / 2, most / 2, "+", most},
		{most, 0, "-", most}, {0, most, "-", -most}, {0, -most, "-", most}, {1 - most, 1, "-", -most}, {most - 1, -1, "-", most}, {-1, most - 1, "-", -most}, {most, most, "-", 0}, {-most, -most, "-", 0}, {-most / 2, most / 2, "-", -most},
	} {
		a, b := num(z.a), num(z.b)
		twoSides(a, b, func(l impl.Arg, r impl.Arg) {
			checkCompute(t, num(z.want), impl.Expr{Op: z.op, L: l, R: r}, boundXY(a, b))
		})
	}
	for _, z := range []struct {
		a, b int
		op   string
	}{
		{most, 1, "+"}, {1, most, "+"}, {-most, -1, "+"}, {-1, -most, "+"}, {most, most, "+"}, {-most, -most, "+"}, {most/2 + 1, most / 2, "+"},
		{-most, 1, "-"}, {most, -1, "-"}, {-1, most, "-"}, {1, -most, "-"}, {most, -most, "-"}, {-most, most, "-"}, {-most/2 - 1, most / 2, "-"},
	} {
		a, b := num(z.a), num(z.b)
		twoSides(a, b, func(l impl.Arg, r impl.Arg) {
			checkComputesNothing(t, impl.Expr{Op: z.op, L: l, R: r}, boundXY(a, b))
		})
	}
}

// What is added is taken away again, and a sum does not hang on which side is which.
func TestComputeBackAgain(t *testing.T) {
	x, y := avar("X"), avar("Y")
	for _, a := range goodVals()[:15] {
		for _, b := range goodVals()[:15] {
			sum, okSum := impl.Compute(plus(x, y), boundXY(a, b))
			back, okBack := impl.Compute(plus(y, x), boundXY(a, b))
			if sum != back || okSum != okBack {
				t.Errorf("%v, %v: %v, %v", a, b, sum, back)
			}
			if okSum {
				checkCompute(t, a, minus(x, y), boundXY(sum, b))
				checkCompute(t, b, minus(x, y), boundXY(sum, a))
			}
			if difference, ok := impl.Compute(minus(x, y), boundXY(a, b)); ok {
				checkCompute(t, a, plus(x, y), boundXY(difference, b))
				checkCompute(t, num(-difference.N), minus(y, x), boundXY(a, b))
			}
		}
	}
}

// There is no sum of a text, even if it reads like a number.
func TestComputeOfTexts(t *testing.T) {
	for _, s := range goodVals()[15:] {
		checkCompute(t, s, plain(aval(s)), nil)
		for _, other := range []impl.Val{num(0), num(1), num(-1), num(impl.MaxInt), txt(""), txt("1"), s} {
			twoSides(s, other, func(l impl.Arg, r impl.Arg) {
				for _, e := range exprs(plus(l, r), plus(r, l), minus(l, r), minus(r, l)) {
					checkComputesNothing(t, e, boundXY(s, other))
				}
			})
		}
	}
}

func TestComputeOfWhatIsNotBound(t *testing.T) {
	none, never := avar("V"), avar("Q")
	for _, l := range [][]impl.Bind{nil, {}, binds(bind("X", num(1))), boundXY(num(1), num(2)), boundXY(impl.Val{}, txt("")), boundXY(num(1), num(2))[:1]} {
		checkComputesNothing(t, plain(none), l)
		for _, other := range []impl.Arg{aval(num(0)), aval(num(5)), aval(txt("a")), avar("X"), none, never} {
			for _, e := range exprs(plus(none, other), plus(other, none), minus(none, other), minus(other, none)) {
				checkComputesNothing(t, e, l)
			}
		}
	}
	all := binds(bind("X", num(1)), bind("Y", num(2)))
	checkCompute(t, num(3), plus(avar("X"), avar("Y")), all)
	checkComputesNothing(t, plus(avar("X"), avar("Y")), all[:1])
	checkComputesNothing(t, minus(avar("Y"), avar("X")), all[1:])
}

func TestComputeOfTheFirstOfOneName(t *testing.T) {
	x, y := avar("X"), avar("Y")
	l := binds(bind("X", num(1)), bind("Y", num(20)), bind("X", num(2)), bind("Y", txt("a")), bind("X", num(3)))
	checkCompute(t, num(1), plain(x), l)
	checkCompute(t, num(21), plus(x, y), l)
	checkCompute(t, num(-19), minus(x, y), l)
	checkCompute(t, num(19), minus(y, x), l)
	checkCompute(t, num(2), plus(x, x), l)
	checkCompute(t, num(0), minus(x, x), l)
	checkCompute(t, num(22), plus(x, y), l[1:])
	checkComputesNothing(t, plus(x, y), l[2:])
}

func TestComputeOfAnOpThatIsNone(t *testing.T) {
	for _, op := range noSigns() {
		for _, l := range someSides() {
			for _, r := range someSides() {
				checkComputesNothing(t, impl.Expr{Op: op, L: l, R: r}, boundXY(num(1), num(2)))
			}
		}
	}
}

func TestComputeOfArgumentsThatAreNone(t *testing.T) {
	l := boundXY(num(1), num(2))
	for _, k := range []int{0, impl.AAny, 4, -1, math.MinInt, math.MaxInt} {
		for _, a := range []impl.Arg{{K: k}, {K: k, S: "X"}, {K: k, V: num(1)}, {K: k, S: "X", V: num(1)}} {
			checkComputesNothing(t, plain(a), l)
			for _, other := range []impl.Arg{avar("X"), aval(num(1)), aval(txt("a")), aany(), {}, a} {
				for _, e := range exprs(plus(a, other), plus(other, a), minus(a, other), minus(other, a)) {
					checkComputesNothing(t, e, l)
				}
			}
		}
	}
}

// What is no value has no sum, on either side, as it stands there or is bound.
func TestSumsOfWhatIsNotRight(t *testing.T) {
	for _, v := range inOrder(wrongVals()) {
		for _, other := range []impl.Val{num(0), num(1), num(-impl.MaxInt), txt(""), v} {
			twoSides(v, other, func(l impl.Arg, r impl.Arg) {
				for _, e := range exprs(plus(l, r), plus(r, l), minus(l, r), minus(r, l)) {
					checkComputesNothing(t, e, boundXY(v, other))
				}
			})
		}
	}
}

// What is wrong beside the Op and what it takes makes a term wrong, but does not turn its value.
func TestComputeGoesByTheOp(t *testing.T) {
	l := boundXY(num(1), num(2))
	x, y := avar("X"), avar("Y")
	for _, r := range []impl.Arg{x, y, aval(num(5)), avar("V"), aany(), {S: "X"}} {
		e := impl.Expr{L: x, R: r}
		if impl.ExprOk(e) || impl.ExprText(e) != "" {
			t.Errorf("%v: %q", e, impl.ExprText(e))
		}
		checkCompute(t, num(1), e, l)
		checkComputesNothing(t, impl.Expr{R: r}, l)
	}
	manyX, manyTwo := impl.Arg{K: impl.AVar, S: "X", V: num(9)}, impl.Arg{K: impl.AVal, S: "X", V: num(2)}
	for e, want := range map[impl.Expr]int{plain(manyX): 1, plain(manyTwo): 2, plus(manyX, manyTwo): 3, minus(manyX, manyTwo): -1, minus(y, manyX): 1, plus(manyTwo, y): 4} {
		if impl.ExprOk(e) || impl.ExprText(e) != "" {
			t.Errorf("%v: %q", e, impl.ExprText(e))
		}
		checkCompute(t, num(want), e, l)
	}
}

// computedByRows tells a term's value by what each side has and a row of what may come of two numbers.
func computedByRows(e impl.Expr, l []impl.Bind) (impl.Val, bool) {
	left, right := thereOf(e.L, l), thereOf(e.R, l)
	if e.Op == "" && len(left) > 0 {
		return left[0], true
	}
	if e.Op == "" || len(left) == 0 || len(right) == 0 {
		return impl.Val{}, false
	}
	a, b := left[0], right[0]
	n, sign := map[string]int{"+": a.N + b.N, "-": a.N - b.N}[e.Op], e.Op == "+" || e.Op == "-"
	if !sign || a != num(a.N) || b != num(b.N) || max(a.N, -a.N, b.N, -b.N, n, -n) > impl.MaxInt {
		return impl.Val{}, false
	}
	return num(n), true
}

// mixedExprs are terms of each Op and of none, of sides that are right and wrong.
func mixedExprs() []impl.Expr {
	sides := append(someSides(), aval(num(-3)), aval(num(impl.MaxInt)), aval(num(-impl.MaxInt)), aval(num(impl.MaxInt+1)))
	var all []impl.Expr
	for _, op := range []string{"", "+", "-", "*", "+-"} {
		for _, l := range sides {
			for _, r := range sides {
				all = append(all, impl.Expr{Op: op, L: l, R: r})
			}
		}
	}
	return all
}

func TestComputeOfAllMixtures(t *testing.T) {
	for _, e := range mixedExprs() {
		for _, l := range boundAhead() {
			if want, ok := computedByRows(e, l); ok {
				checkCompute(t, want, e, l)
			} else {
				checkComputesNothing(t, e, l)
			}
		}
	}
}

func TestComputeAllOfNone(t *testing.T) {
	for _, l := range boundAhead() {
		for _, es := range [][]impl.Expr{nil, {}, exprs(impl.Expr{}, impl.Expr{})[:0]} {
			if vs, ok := impl.ComputeAll(es, l); !ok || len(vs) != 0 {
				t.Errorf("none, %v: %v %v", l, vs, ok)
			}
		}
	}
}

// One that has no value is enough, wherever it stands, and then none of the others is told.
func TestComputeAllWithOneThatHasNone(t *testing.T) {
	l := boundXY(num(1), num(2))
	x, y := avar("X"), avar("Y")
	good := exprs(plain(x), plus(x, y), minus(x, y), plain(aval(txt("a"))), minus(aval(num(-5)), y), plain(aval(num(9))), plain(avar("W")))
	vals := []impl.Val{num(1), num(3), num(-1), txt("a"), num(-7), num(9), txt("w")}
	bad := exprs(impl.Expr{}, plain(aany()), plain(avar("V")), plus(x, avar("V")), minus(avar("V"), y), plus(x, aval(txt("a"))), plus(avar("W"), x), plus(x, aval(num(impl.MaxInt))), impl.Expr{Op: "*", L: x, R: y}, impl.Expr{Op: "+", L: x})
	for n := range len(good) + 1 {
		if vs, ok := impl.ComputeAll(good[:n], l); !ok || !slices.Equal(vs, vals[:n]) {
			t.Errorf("the first %d: %v %v", n, vs, ok)
		}
		for at := range n {
			for _, e := range bad {
				es := slices.Clone(good[:n])
				es[at] = e
				if vs, ok := impl.ComputeAll(es, l); ok || len(vs) != 0 {
					t.Errorf("%d with %v at %d: %v %v", n, e, at, vs, ok)
				}
			}
		}
		// What lies behind the end is not asked.
		if vs, ok := impl.ComputeAll(append(slices.Clone(good[:n]), bad...)[:n], l); !ok || !slices.Equal(vs, vals[:n]) {
			t.Errorf("what has none behind the end of %d: %v %v", n, vs, ok)
		}
	}
}

func TestComputeAllOfEachList(t *testing.T) {
	x, y := avar("X"), avar("Y")
	of := exprs(plain(x), plus(x, y), minus(y, aval(num(1))), plain(aval(txt("a"))), plus(x, x), impl.Expr{})
	for _, es := range listsOf(of, 3) {
		for _, l := range boundAhead() {
			want, wantOk := []impl.Val{}, true
			for _, e := range es {
				v, ok := computedByRows(e, l)
				want, wantOk = append(want, v), wantOk && ok
			}
			if !wantOk {
				want = nil
			}
			if got, ok := impl.ComputeAll(es, l); ok != wantOk || !slices.Equal(got, want) {
				t.Errorf("%v, %v: %v %v, not %v", es, l, got, ok, want)
			}
		}
	}
}

func TestManyTerms(t *testing.T) {
	var es []impl.Expr
	for i := range 5000 {
		es = append(es, minus(aval(num(i)), avar("X")))
	}
	vs, ok := impl.ComputeAll(es, boundXY(num(7), num(2)))
	for i, v := range vs {
		if v != num(i-7) {
			t.Errorf("%d: %v", i, v)
		}
	}
	if !ok || len(vs) != len(es) {
		t.Error(len(vs), ok)
	}
	es[len(es)-1].Op = "*"
	if vs, ok := impl.ComputeAll(es, boundXY(num(7), num(2))); ok || len(vs) != 0 {
		t.Error("all but the last:", len(vs), ok)
	}
}

func TestActOk(t *testing.T) { checkOks(t, impl.ActOk, goodActs(), wrongActs()) }

func TestActsOfNoughtToSevenTerms(t *testing.T) {
	row := slices.Repeat(exprs(plain(avar("X")), plus(avar("X"), aval(num(1)))), 4)
	for word, of := range actsOf() {
		for n := range len(row) {
			// What lies behind the end counts for nothing, right or wrong.
			for _, behind := range exprs(row[0], impl.Expr{}) {
				a := of(append(slices.Clone(row[:n]), behind)[:n]...)
				if ok := impl.ActOk(a); ok != (n <= 5) || (impl.ActText(a) != "") != ok {
					t.Errorf("%s of %d: %v", word, n, ok)
				}
			}
		}
	}
}

func TestNumbersOfActs(t *testing.T) {
	for n := -300; n <= 100300; n++ {
		for want, a := range map[string]impl.Act{"drop " + strconv.Itoa(n): dropAct(n), "timer " + strconv.Itoa(n) + " t()": timerAct(n, "t")} {
			most := 7
			if a.Kind == impl.AcTimer {
				most = 100000
			}
			ok := n >= 0 && n <= most
			if !ok {
				want = ""
			}
			if impl.ActOk(a) != ok || impl.ActText(a) != want {
				t.Errorf("%v: %v %q", a, impl.ActOk(a), impl.ActText(a))
			}
		}
	}
}

func TestActNamesAreNames(t *testing.T) {
	for c := range 256 {
		for _, s := range []string{string([]byte{byte(c)}), "a" + string([]byte{byte(c)}), twelve[:11] + string([]byte{byte(c)}), twelve + string([]byte{byte(c)})} {
			want := impl.NameOk(s)
			for _, a := range []impl.Act{assertAct(s), taskAct("", s), timerAct(5, s), taskAct(s, "t")} {
				if impl.ActOk(a) != want || (impl.ActText(a) != "") != want {
					t.Errorf("%v: %v", a, !want)
				}
			}
		}
	}
}

// actTextByRows is an act's text by a row of what each kind has, and nothing of what is no act.
func actTextByRows(a impl.Act) string {
	rows := map[int]struct {
		word               string
		mostN              int
		named, wait, undos bool
	}{
		1: {word: "assert", named: true},
		2: {word: "drop", mostN: 7, wait: true},
		3: {word: "task", named: true, undos: true},
		4: {word: "timer", mostN: 100000, named: true, wait: true},
		5: {word: "done"},
		6: {word: "fail"},
	}
	row, ok := rows[a.Kind]
	if !ok || a.N < 0 || a.N > row.mostN || a.Undo != "" && (!row.undos || !impl.NameOk(a.Undo)) || !row.named && len(a.Name)+len(a.Args) > 0 || row.named && (!impl.NameOk(a.Name) || len(a.Args) > 5) {
		return ""
	}
	texts := []string{}
	for _, e := range a.Args {
		if !impl.ExprOk(e) {
			return ""
		}
		texts = append(texts, impl.ExprText(e))
	}
	words := []string{row.word}
	if row.wait {
		words = append(words, strconv.Itoa(a.N))
	}
	if row.named {
		words = append(words, a.Name+"("+strings.Join(texts, ", ")+")")
	}
	if a.Undo != "" {
		words = append(words, "undo", a.Undo)
	}
	return strings.Join(words, " ")
}

func checkActByRows(t *testing.T, a impl.Act) {
	t.Helper()
	want := actTextByRows(a)
	if got, ok := impl.ActText(a), impl.ActOk(a); got != want || ok != (want != "") {
		t.Errorf("%v: %v %q, not %q", a, ok, got, want)
	}
}

// Each field that a kind does not name is set by some of these, and each that it names is left out.
func TestActsOfAllMixtures(t *testing.T) {
	x, sum := plain(avar("X")), minus(avar("X"), aval(num(-2)))
	lists := [][]impl.Expr{nil, {}, exprs(x), exprs(sum, x), exprs(x, x, x, x, sum), exprs(x, x, x, x, x, x), exprs(impl.Expr{}), exprs(x, plain(aany()))}
	for kind := -1; kind <= 8; kind++ {
		for _, name := range []string{"", "a", "A", twelve, twelve + "z"} {
			for _, args := range lists {
				for _, n := range []int{math.MinInt, -1, 0, 1, 7, 8, 99999, 100000, 100001, math.MaxInt} {
					for _, undo := range []string{"", "u", "U", twelve, twelve + "z"} {
						checkActByRows(t, impl.Act{Kind: kind, Name: name, Args: args, N: n, Undo: undo})
					}
				}
			}
		}
	}
	for _, a := range append(goodActs(), inOrder(wrongActs())...) {
		checkActByRows(t, a)
	}
}

func TestActTexts(t *testing.T) {
	x, sum, less := plain(avar("X")), plus(avar("X"), aval(num(2))), minus(aval(num(-1)), aval(num(-2)))
	checkTexts(t, impl.ActText, map[string]impl.Act{
		"assert a()": assertAct("a"), "assert n(X)": assertAct("n", x), "assert n(X, X + 2)": assertAct("n", x, sum), "assert n(-1 - -2, 'a_1', '', 0, X)": assertAct("n", less, plain(aval(txt("a_1"))), plain(aval(txt(""))), plain(aval(num(0))), x),
		"drop 0": dropAct(0), "drop 1": dropAct(1), "drop 7": dropAct(7),
		"task t()": taskAct("", "t"), "task t() undo u": taskAct("u", "t"), "task t(X)": taskAct("", "t", x), "task t(X, X + 2) undo t": taskAct("t", "t", x, sum), "task " + twelve + "() undo " + twelve: taskAct(twelve, twelve),
		"timer 0 t()": timerAct(0, "t"), "timer 5 t(X)": timerAct(5, "t", x), "timer 100000 t(-1 - -2, X + 2)": timerAct(100000, "t", less, sum), "timer 10 t(X, X, X, X, X)": timerAct(10, "t", x, x, x, x, x),
		"done": {Kind: impl.AcDone}, "fail": {Kind: impl.AcFail},
		"assert done()": assertAct("done"), "task undo() undo undo": taskAct("undo", "undo"), "assert drop(7)": assertAct("drop", plain(aval(num(7)))),
	}, wrongActs())
}

func TestTokensOfActTexts(t *testing.T) {
	x, less := plain(avar("X")), minus(avar("X"), aval(num(-2)))
	checkLex(t, impl.ActText(assertAct("n", x, less)), kname("assert"), kname("n"), kmark("("), kvar("X"), kmark(","), kvar("X"), kmark("-"), kmark("-"), kint(2), kmark(")"))
	checkLex(t, impl.ActText(dropAct(7)), kname("drop"), kint(7))
	checkLex(t, impl.ActText(taskAct("u_1", "t_1")), kname("task"), kname("t_1"), kmark("("), kmark(")"), kname("undo"), kname("u_1"))
	checkLex(t, impl.ActText(timerAct(100000, "t", x)), kname("timer"), kint(100000), kname("t"), kmark("("), kvar("X"), kmark(")"))
	checkLex(t, impl.ActText(impl.Act{Kind: impl.AcDone}), kname("done"))
	checkLex(t, impl.ActText(impl.Act{Kind: impl.AcFail}), kname("fail"))
}

// No two unlike acts have one text.
func TestActTextsTellActsApart(t *testing.T) {
	of := exprs(plain(avar("X")), plain(aval(num(-1))), plus(avar("X"), aval(num(1))), minus(avar("X"), aval(num(1))), minus(avar("X"), aval(num(-1))), plain(aval(txt("x"))))
	seen, count := map[string]bool{}, 0
	see := func(a impl.Act) {
		seen[impl.ActText(a)] = true
		count++
	}
	for _, args := range listsOf(of, 3) {
		for _, name := range []string{"a", "b", "done", "undo"} {
			see(assertAct(name, args...))
			see(taskAct("", name, args...))
			see(taskAct("a", name, args...))
			see(taskAct("undo", name, args...))
			see(timerAct(0, name, args...))
			see(timerAct(10, name, args...))
		}
	}
	for n := range 8 {
		see(dropAct(n))
	}
	see(impl.Act{Kind: impl.AcDone})
	see(impl.Act{Kind: impl.AcFail})
	if seen[""] || len(seen) != count {
		t.Error(len(seen), count)
	}
}

func TestActsWriteIntoNoArgument(t *testing.T) {
	spare := plus(avar("Spare"), avar("Spare"))
	for _, l := range boundAhead() {
		ahead, cleanAhead := guardedList(l, bind("Spare", num(77)))
		for _, a := range append(goodActs(), inOrder(wrongActs())...) {
			args, cleanArgs := guardedList(a.Args, spare)
			a.Args = args
			impl.ActOk(a)
			impl.ActText(a)
			impl.ComputeAll(args, ahead)
			for _, e := range args {
				impl.ExprOk(e)
				impl.ExprText(e)
				impl.Compute(e, ahead)
			}
			if !cleanArgs() || !cleanAhead() {
				t.Errorf("%v, %v", a, l)
			}
		}
	}
}

func TestWhatIsComputedSharesNoMemory(t *testing.T) {
	x, spare := avar("X"), plus(avar("Spare"), avar("Spare"))
	for _, es := range listsOf(exprs(plain(x), plain(aval(txt("a"))), plus(x, x), plain(avar("V"))), 5) {
		l := boundXY(num(4), txt("y"))
		given, cleanGiven := guardedList(es, spare)
		ahead, cleanAhead := guardedList(l, bind("Spare", num(77)))
		one, okOne := impl.ComputeAll(given, ahead)
		two, okTwo := impl.ComputeAll(given, ahead)
		want := slices.Clone(two)
		all := one[:cap(one)]
		for i := range all {
			if i >= len(one) && all[i] != (impl.Val{}) {
				t.Errorf("%v: %v behind the end", es, all[i])
			}
			all[i] = num(99)
		}
		if !cleanGiven() || !cleanAhead() || okOne != okTwo || !slices.Equal(two, want) {
			t.Errorf("%v: an answer shares memory", es)
		}
		for i := range given {
			given[i] = spare
		}
		for i := range ahead {
			ahead[i] = bind("X", num(98))
		}
		if !slices.Equal(two, want) {
			t.Errorf("%v: an answer turns with its argument", es)
		}
	}
}

// Texts have no memory in common with an argument either.
func TestActsShareNoTexts(t *testing.T) {
	var turns []func()
	over := func(s string) string {
		text, turn := textOver(s)
		turns = append(turns, turn)
		return text
	}
	x, word, op := avar(over("Xyz")), aval(txt(over("word"))), over("+")
	l := binds(bind(over("Xyz"), txt(over("value"))))
	texts := map[string]string{
		"Xyz":                               impl.ExprText(plain(x)),
		"'word'":                            impl.ExprText(plain(word)),
		"Xyz + 'word'":                      impl.ExprText(impl.Expr{Op: op, L: x, R: word}),
		"assert name()":                     impl.ActText(assertAct(over("name"))),
		"task t(Xyz) undo gone":             impl.ActText(taskAct(over("gone"), over("t"), plain(x))),
		"timer 5 n('word', Xyz + Xyz, Xyz)": impl.ActText(timerAct(5, over("n"), plain(word), impl.Expr{Op: op, L: x, R: x}, plain(x))),
	}
	own, okOwn := impl.Compute(plain(word), l)
	bound, okBound := impl.Compute(plain(x), l)
	all, okAll := impl.ComputeAll(exprs(plain(x), plain(word)), l)
	for _, turn := range turns {
		turn()
	}
	for want, got := range texts {
		if got != want {
			t.Errorf("%q, not %q", got, want)
		}
	}
	if !okOwn || own != txt("word") || !okBound || bound != txt("value") || !okAll || !slices.Equal(all, []impl.Val{txt("value"), txt("word")}) {
		t.Error(own, bound, all)
	}
}
