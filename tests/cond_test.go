package tests

import (
	"math"
	"slices"
	"strconv"
	"strings"
	"testing"

	"loop.example/g00282/impl"
)

func cond(op int, l impl.Arg, r impl.Arg) impl.Cond { return impl.Cond{Op: op, L: l, R: r} }

func conds(l ...impl.Cond) []impl.Cond { return l }

func allOps() []int { return []int{impl.CSame, impl.COther, impl.CLess} }

func wrongOps() []int {
	return []int{0, 4, 5, -1, -2, -3, 7, 64, 256, 257, 1 << 32, 1<<32 + 1, math.MinInt, math.MinInt + 1, math.MaxInt, '=', '#', '<'}
}

// sides are arguments that a condition may have.
func sides() []impl.Arg {
	return slices.DeleteFunc(goodArgs(), func(a impl.Arg) bool { return a.K == impl.AAny })
}

// wrongSides are what is no argument of a condition, each with its reason.
func wrongSides() map[string]impl.Arg {
	wrong := wrongArgs()
	wrong["anything"] = aany()
	return wrong
}

// wrongConds are what is no condition, each with its reason.
func wrongConds() map[string]impl.Cond {
	x, one := avar("X"), aval(num(1))
	wrong := map[string]impl.Cond{"nothing": {}, "no Op": {L: x, R: one}, "a left side alone": {Op: impl.CSame, L: x}, "a right side alone": {Op: impl.CSame, R: one}, "an Op alone": {Op: impl.CLess}}
	for _, op := range wrongOps() {
		wrong["an Op of "+strconv.Itoa(op)] = cond(op, x, one)
	}
	for why, a := range wrongSides() {
		for _, op := range allOps() {
			wrong["on the left of "+signText(op)+": "+why] = cond(op, a, one)
			wrong["on the right of "+signText(op)+": "+why] = cond(op, x, a)
			wrong["on both sides of "+signText(op)+": "+why] = cond(op, a, a)
		}
	}
	return wrong
}

func signText(op int) string { return []string{"", "=", "#", "<"}[op] }

// boundXY is X bound to the one and Y to the other, with some more about them.
func boundXY(x impl.Val, y impl.Val) []impl.Bind {
	return binds(bind("W", txt("w")), bind("X", x), bind("", num(7)), bind("Y", y), bind("x", num(8)))
}

func checkHolds(t *testing.T, want bool, c impl.Cond, l []impl.Bind) {
	t.Helper()
	if got := impl.Holds(c, l); got != want {
		t.Errorf("%v, %v: %v", c, l, got)
	}
	if got := impl.HoldAll(conds(c), l); got != want {
		t.Errorf("all of %v, %v: %v", c, l, got)
	}
}

func TestSignsOfConditions(t *testing.T) {
	if impl.CSame != 1 || impl.COther != 2 || impl.CLess != 3 {
		t.Error(impl.CSame, impl.COther, impl.CLess)
	}
}

func TestCondOk(t *testing.T) {
	var right []impl.Cond
	for _, op := range allOps() {
		for _, l := range sides() {
			for _, r := range sides() {
				right = append(right, cond(op, l, r))
			}
		}
	}
	checkOks(t, impl.CondOk, right, wrongConds())
}

func TestCondOkOfEachOp(t *testing.T) {
	for op := -300; op <= 300; op++ {
		for _, c := range conds(cond(op, avar("X"), aval(num(2))), cond(op, aval(txt("a")), avar("X")), cond(op, avar("X"), avar("X"))) {
			if ok := impl.CondOk(c); ok != (1 <= op && op <= 3) || ok != (impl.CondText(c) != "") {
				t.Errorf("%v: %v", c, ok)
			}
		}
	}
}

// What is right on the one side does not make up for the other.
func TestCondOkOfEachMixture(t *testing.T) {
	all := append(sides(), inOrder(wrongSides())...)
	for i, l := range all {
		for k, r := range all {
			want := i < len(sides()) && k < len(sides())
			for _, op := range allOps() {
				if c := cond(op, l, r); impl.CondOk(c) != want || (impl.CondText(c) != "") != want {
					t.Errorf("%v: %v %q", c, impl.CondOk(c), impl.CondText(c))
				}
			}
		}
	}
}

func TestCondTexts(t *testing.T) {
	x, y, one := avar("X"), avar("Y"), aval(num(1))
	checkTexts(t, impl.CondText, map[string]impl.Cond{
		"X = 1": cond(impl.CSame, x, one), "X # 1": cond(impl.COther, x, one), "X < 1": cond(impl.CLess, x, one),
		"1 = X": cond(impl.CSame, one, x), "1 # X": cond(impl.COther, one, x), "1 < X": cond(impl.CLess, one, x),
		"X = Y": cond(impl.CSame, x, y), "Y # X": cond(impl.COther, y, x), "X < X": cond(impl.CLess, x, x), "1 = 1": cond(impl.CSame, one, one),
		"-1 < 0":                          cond(impl.CLess, aval(num(-1)), aval(num(0))),
		"'' # 'a'":                        cond(impl.COther, aval(txt("")), aval(txt("a"))),
		"'1' = 1":                         cond(impl.CSame, aval(txt("1")), one),
		twelveVar + " < '" + twenty + "'": cond(impl.CLess, avar(twelveVar), aval(txt(twenty))),
		"-1000000000 # 1000000000":        cond(impl.COther, aval(num(-impl.MaxInt)), aval(num(impl.MaxInt))),
	}, wrongConds())
}

// textInPat is what a pattern's text has of its argument.
func textInPat(a impl.Arg) string {
	return strings.TrimSuffix(strings.TrimPrefix(impl.PatText(pat("a", a)), "a("), ")")
}

// A condition's text is the texts that a pattern has of its two arguments, with its sign between.
func TestCondTextsOfEachTwoSides(t *testing.T) {
	seen := map[string]bool{}
	count := 0
	for _, op := range allOps() {
		for _, l := range sides() {
			for _, r := range sides() {
				got := impl.CondText(cond(op, l, r))
				if want := textInPat(l) + " " + signText(op) + " " + textInPat(r); got != want {
					t.Errorf("%d, %v, %v: %q, not %q", op, l, r, got, want)
				}
				seen[got] = true
				count++
			}
		}
	}
	if len(seen) != count {
		t.Errorf("%d texts of %d conditions", len(seen), count)
	}
}

func TestTokensOfCondTexts(t *testing.T) {
	for _, op := range allOps() {
		sign := kmark(signText(op))
		checkLex(t, impl.CondText(cond(op, avar("Xy_1"), aval(num(20)))), kvar("Xy_1"), sign, kint(20))
		checkLex(t, impl.CondText(cond(op, aval(txt("a_1")), avar("Y"))), ktext("a_1"), sign, kvar("Y"))
		checkLex(t, impl.CondText(cond(op, aval(num(-2)), aval(txt("")))), kmark("-"), kint(2), sign, ktext(""))
	}
}

func TestArgVal(t *testing.T) {
	l := binds(bind("X", num(1)), bind("Y", txt("a")), bind("X", num(2)), bind("Z", impl.Val{}), bind("", num(3)), bind("y", num(4)))
	for _, c := range []struct {
		a    impl.Arg
		want impl.Val
	}{
		{avar("X"), num(1)}, {avar("Y"), txt("a")}, {avar("Z"), impl.Val{}}, {avar(""), num(3)}, {avar("y"), num(4)},
		{aval(num(5)), num(5)}, {aval(num(0)), num(0)}, {aval(txt("")), txt("")}, {aval(txt("X")), txt("X")}, {aval(num(-impl.MaxInt)), num(-impl.MaxInt)},
	} {
		if v, ok := impl.ArgVal(c.a, l); !ok || v != c.want {
			t.Errorf("%v: %v %v, not %v", c.a, v, ok, c.want)
		}
	}
	for _, a := range []impl.Arg{avar("V"), avar("x"), avar("XX"), avar("X "), avar("Y\x00"), aany(), {}, {S: "X"}, {V: num(1)}, {K: 4, S: "X", V: num(1)}, {K: -1, S: "X", V: num(1)}, {K: impl.AAny, S: "X", V: num(1)}, {K: math.MaxInt, S: "X"}, {K: math.MinInt, V: num(1)}} {
		if v, ok := impl.ArgVal(a, l); ok || v != (impl.Val{}) {
			t.Errorf("%v: %v %v", a, v, ok)
		}
	}
}

// A value is there whatever is bound; a variable only where it is bound ahead of the end.
func TestArgValOfEachArgument(t *testing.T) {
	for _, l := range boundAhead() {
		for _, v := range goodVals() {
			if got, ok := impl.ArgVal(aval(v), l); !ok || got != v {
				t.Errorf("%v, %v: %v %v", v, l, got, ok)
			}
		}
		for _, name := range append(goodVars(), "", "x", "Y", "W") {
			got, ok := impl.ArgVal(avar(name), l)
			if want, there := impl.BindOf(l, name); ok != there || got != want {
				t.Errorf("%q, %v: %v %v", name, l, got, ok)
			}
		}
	}
	l := binds(bind("X", num(1)), bind("Y", num(2)))
	if v, ok := impl.ArgVal(avar("Y"), l[:1]); ok || v != (impl.Val{}) {
		t.Error("what lies behind the end is found:", v)
	}
	if v, ok := impl.ArgVal(avar("X"), l[:0]); ok || v != (impl.Val{}) {
		t.Error("what lies behind the end is found:", v)
	}
}

// What a kind does not name is not asked for a value.
func TestArgValGoesByTheKind(t *testing.T) {
	l := binds(bind("X", num(1)), bind("1", num(2)), bind("", num(3)))
	both := impl.Arg{K: impl.AVar, S: "X", V: num(9)}
	if v, ok := impl.ArgVal(both, l); !ok || v != num(1) {
		t.Error("a variable with a value:", v, ok)
	}
	if v, ok := impl.ArgVal(both, nil); ok || v != (impl.Val{}) {
		t.Error("a variable with a value that is not bound:", v, ok)
	}
	both.K = impl.AVal
	if v, ok := impl.ArgVal(both, l); !ok || v != num(9) {
		t.Error("a value with a variable:", v, ok)
	}
	for why, v := range wrongVals() {
		if got, ok := impl.ArgVal(aval(v), l); !ok || got != v {
			t.Errorf("%s: %v %v", why, got, ok)
		}
		if got, ok := impl.ArgVal(avar("W"), binds(bind("W", v))); !ok || got != v {
			t.Errorf("%s, bound: %v %v", why, got, ok)
		}
	}
}

// twoSides are the ways in which a condition may be asked of these two values, which boundXY binds.
func twoSides(a impl.Val, b impl.Val, check func(l impl.Arg, r impl.Arg)) {
	check(aval(a), aval(b))
	check(avar("X"), aval(b))
	check(aval(a), avar("Y"))
	check(avar("X"), avar("Y"))
}

// The values stand in ascending order, so their places tell which of the three holds.
func TestHoldsOfEachTwoValues(t *testing.T) {
	for i, a := range goodVals() {
		for k, b := range goodVals() {
			l := boundXY(a, b)
			twoSides(a, b, func(left impl.Arg, right impl.Arg) {
				checkHolds(t, i == k, cond(impl.CSame, left, right), l)
				checkHolds(t, i != k, cond(impl.COther, left, right), l)
				checkHolds(t, i < k, cond(impl.CLess, left, right), l)
			})
		}
	}
}

func TestJustOneOfTheSameAndNotTheSameHolds(t *testing.T) {
	vals := append(goodVals(), inOrder(wrongVals())...)
	for _, a := range vals {
		for _, b := range vals {
			l := boundXY(a, b)
			twoSides(a, b, func(left impl.Arg, right impl.Arg) {
				same, other := impl.Holds(cond(impl.CSame, left, right), l), impl.Holds(cond(impl.COther, left, right), l)
				less, more := impl.Holds(cond(impl.CLess, left, right), l), impl.Holds(cond(impl.CLess, right, left), l)
				if same == other || same != (a == b) {
					t.Errorf("%v, %v: the same %v, not the same %v", a, b, same, other)
				}
				if less && more || (less || more) != other || less != impl.LessVal(a, b) {
					t.Errorf("%v, %v: not the same %v, less %v, more %v", a, b, other, less, more)
				}
			})
		}
	}
}

func TestHoldsOfUnlikeKinds(t *testing.T) {
	for _, z := range []struct{ n, s impl.Val }{{num(1), txt("1")}, {num(0), txt("")}, {num(impl.MaxInt), txt("")}, {num(-1), txt("a")}, {num(2), txt("1")}} {
		l := boundXY(z.n, z.s)
		twoSides(z.n, z.s, func(n impl.Arg, s impl.Arg) {
			checkHolds(t, false, cond(impl.CSame, n, s), l)
			checkHolds(t, false, cond(impl.CSame, s, n), l)
			checkHolds(t, true, cond(impl.COther, n, s), l)
			checkHolds(t, true, cond(impl.COther, s, n), l)
			checkHolds(t, true, cond(impl.CLess, n, s), l)
			checkHolds(t, false, cond(impl.CLess, s, n), l)
		})
	}
}

// A value is held against another in all its parts, those too that its kind does not name.
func TestHoldsOfWhatIsNoValue(t *testing.T) {
	odd, more := impl.Val{K: impl.VInt, N: 1, S: "a"}, impl.Val{K: 3}
	l := binds(bind("X", odd), bind("Y", more), bind("Z", impl.Val{}))
	checkHolds(t, true, cond(impl.CSame, avar("X"), aval(odd)), l)
	checkHolds(t, false, cond(impl.CSame, avar("X"), aval(num(1))), l)
	checkHolds(t, true, cond(impl.COther, avar("X"), aval(num(1))), l)
	checkHolds(t, true, cond(impl.CLess, aval(num(1)), avar("X")), l)
	checkHolds(t, true, cond(impl.CLess, avar("X"), aval(num(2))), l)
	checkHolds(t, true, cond(impl.CLess, aval(txt("z")), avar("Y")), l)
	checkHolds(t, true, cond(impl.CLess, avar("Z"), aval(num(-impl.MaxInt))), l)
	checkHolds(t, true, cond(impl.CSame, avar("Z"), aval(impl.Val{})), l)
	checkHolds(t, false, cond(impl.COther, avar("Z"), avar("Z")), l)
}

func TestHoldsOfTheSameVariableTwice(t *testing.T) {
	x := avar("X")
	for _, v := range goodVals() {
		l := boundXY(v, num(3))
		checkHolds(t, true, cond(impl.CSame, x, x), l)
		checkHolds(t, false, cond(impl.COther, x, x), l)
		checkHolds(t, false, cond(impl.CLess, x, x), l)
	}
	for _, op := range allOps() {
		checkHolds(t, false, cond(op, x, x), nil)
		checkHolds(t, false, cond(op, x, x), binds(bind("Y", num(1)), bind("x", num(1))))
	}
}

// Two that are both not there are not the same, and one that is not there is not another.
func TestHoldsOfWhatIsNotBound(t *testing.T) {
	x, none, never := avar("X"), avar("V"), avar("Q")
	for _, l := range [][]impl.Bind{nil, {}, binds(bind("X", num(1))), boundXY(num(1), num(2)), boundXY(impl.Val{}, txt("")), boundXY(num(1), num(2))[:1]} {
		for _, op := range allOps() {
			for _, v := range append(goodVals(), impl.Val{}) {
				checkHolds(t, false, cond(op, none, aval(v)), l)
				checkHolds(t, false, cond(op, aval(v), none), l)
			}
			checkHolds(t, false, cond(op, none, x), l)
			checkHolds(t, false, cond(op, x, none), l)
			checkHolds(t, false, cond(op, none, none), l)
			checkHolds(t, false, cond(op, none, never), l)
			checkHolds(t, false, cond(op, never, none), l)
		}
	}
	all := binds(bind("X", num(1)), bind("Y", num(2)))
	checkHolds(t, true, cond(impl.CLess, x, avar("Y")), all)
	checkHolds(t, false, cond(impl.CLess, x, avar("Y")), all[:1])
	checkHolds(t, false, cond(impl.COther, avar("Y"), x), all[:1])
}

func TestHoldsOfTheFirstOfOneName(t *testing.T) {
	x, y := avar("X"), avar("Y")
	l := binds(bind("X", num(1)), bind("Y", num(2)), bind("X", num(2)), bind("Y", num(0)), bind("X", num(3)))
	for i, v := range []int{1, 2, 3} {
		checkHolds(t, i == 0, cond(impl.CSame, x, aval(num(v))), l)
		checkHolds(t, i == 0, cond(impl.CSame, aval(num(v)), x), l)
		checkHolds(t, i != 0, cond(impl.COther, x, aval(num(v))), l)
		checkHolds(t, i != 0, cond(impl.CLess, x, aval(num(v))), l)
	}
	checkHolds(t, false, cond(impl.CSame, x, y), l)
	checkHolds(t, true, cond(impl.COther, y, x), l)
	checkHolds(t, true, cond(impl.CLess, x, y), l)
	checkHolds(t, false, cond(impl.CLess, y, x), l)
	checkHolds(t, true, cond(impl.CSame, x, y), l[1:])
	checkHolds(t, false, cond(impl.CLess, x, y), l[2:])
	checkHolds(t, true, cond(impl.CLess, y, x), l[2:])
}

func TestHoldsOfAnOpThatIsNone(t *testing.T) {
	for _, op := range wrongOps() {
		for _, a := range []impl.Val{num(1), num(2), txt("a"), {}} {
			for _, b := range []impl.Val{num(1), num(2), txt("a"), {}} {
				twoSides(a, b, func(l impl.Arg, r impl.Arg) { checkHolds(t, false, cond(op, l, r), boundXY(a, b)) })
			}
		}
	}
}

func TestHoldsOfArgumentsThatAreNone(t *testing.T) {
	l := boundXY(num(1), num(2))
	others := []impl.Arg{avar("X"), avar("Y"), aval(num(1)), aval(impl.Val{}), aany(), {}}
	for _, k := range []int{0, impl.AAny, 4, -1, math.MinInt, math.MaxInt} {
		for _, a := range []impl.Arg{{K: k}, {K: k, S: "X"}, {K: k, V: num(1)}, {K: k, S: "X", V: num(1)}} {
			for _, op := range allOps() {
				for _, other := range others {
					checkHolds(t, false, cond(op, a, other), l)
					checkHolds(t, false, cond(op, other, a), l)
				}
				checkHolds(t, false, cond(op, a, a), l)
			}
		}
	}
}

// What a kind does not name makes a condition wrong, but does not turn what holds.
func TestHoldsOfArgumentsWithMoreThanTheirKindNames(t *testing.T) {
	l := boundXY(num(1), num(2))
	manyX, manyOne := impl.Arg{K: impl.AVar, S: "X", V: num(2)}, impl.Arg{K: impl.AVal, S: "Y", V: num(1)}
	two := aval(num(2))
	for _, a := range []impl.Arg{manyX, manyOne} {
		for _, z := range []struct {
			op         int
			want, back bool
		}{{impl.CSame, false, false}, {impl.COther, true, true}, {impl.CLess, true, false}} {
			for _, c := range conds(cond(z.op, a, two), cond(z.op, two, a)) {
				if impl.CondOk(c) || impl.CondText(c) != "" {
					t.Errorf("%v: %q", c, impl.CondText(c))
				}
			}
			checkHolds(t, z.want, cond(z.op, a, two), l)
			checkHolds(t, z.back, cond(z.op, two, a), l)
		}
		checkHolds(t, true, cond(impl.CSame, a, aval(num(1))), l)
		checkHolds(t, true, cond(impl.CSame, avar("X"), a), l)
	}
	checkHolds(t, true, cond(impl.CSame, manyX, manyOne), l)
	checkHolds(t, false, cond(impl.CSame, manyX, manyOne), nil)
}

// thereOf are all values that an argument may stand for, the one that counts ahead.
func thereOf(a impl.Arg, l []impl.Bind) []impl.Val {
	var there []impl.Val
	if a.K == impl.AVal {
		there = append(there, a.V)
	}
	for _, b := range l {
		if a.K == impl.AVar && b.Name == a.S {
			there = append(there, b.V)
		}
	}
	return there
}

// holdsByRows tells what holds by one row of what may be, for each Op.
func holdsByRows(c impl.Cond, l []impl.Bind) bool {
	left, right := thereOf(c.L, l), thereOf(c.R, l)
	if len(left) == 0 || len(right) == 0 {
		return false
	}
	a, b := left[0], right[0]
	row := [3]bool{a == b, a != b, impl.LessVal(a, b)}
	return c.Op >= 1 && c.Op <= 3 && row[c.Op-1]
}

func someSides() []impl.Arg {
	return []impl.Arg{avar("X"), avar("Y"), avar("Z"), avar("W"), avar(""), avar("x"), aval(num(1)), aval(num(2)), aval(txt("a")), aval(txt("1")), aval(impl.Val{}), aany(), {}, {K: 4, S: "X", V: num(1)}, {K: impl.AVar, S: "X", V: num(2)}, {K: impl.AVal, S: "X", V: num(2)}}
}

func TestHoldsOfAllMixtures(t *testing.T) {
	for op := -1; op <= 5; op++ {
		for _, left := range someSides() {
			for _, right := range someSides() {
				for _, l := range boundAhead() {
					c := cond(op, left, right)
					checkHolds(t, holdsByRows(c, l), c, l)
				}
			}
		}
	}
}

func TestHoldAllOfNone(t *testing.T) {
	for _, l := range boundAhead() {
		for _, cs := range [][]impl.Cond{nil, {}, conds(impl.Cond{}, impl.Cond{})[:0]} {
			if !impl.HoldAll(cs, l) {
				t.Errorf("none, %v", l)
			}
		}
	}
}

// One that does not hold is enough, wherever it stands.
func TestHoldAllWithOneThatDoesNot(t *testing.T) {
	l := boundXY(num(1), num(2))
	x, y := avar("X"), avar("Y")
	good := conds(cond(impl.CLess, x, y), cond(impl.COther, x, y), cond(impl.CSame, x, aval(num(1))), cond(impl.CSame, x, x), cond(impl.COther, y, aval(txt("2"))), cond(impl.CLess, y, aval(txt(""))))
	bad := conds(cond(impl.CSame, x, y), cond(impl.COther, x, x), cond(impl.CLess, y, x), cond(impl.CLess, x, x), cond(impl.CSame, avar("V"), avar("V")), cond(impl.COther, x, avar("V")), cond(impl.COther, avar("V"), x), cond(impl.CSame, aany(), x), cond(0, x, x), cond(4, x, y), impl.Cond{})
	for n := range len(good) + 1 {
		if !impl.HoldAll(good[:n], l) {
			t.Errorf("the first %d", n)
		}
		for at := range n {
			for _, c := range bad {
				cs := slices.Clone(good[:n])
				cs[at] = c
				if impl.HoldAll(cs, l) {
					t.Errorf("%d with %v at %d", n, c, at)
				}
			}
		}
		if impl.HoldAll(append(slices.Clone(bad), good[:n]...), l) {
			t.Errorf("all that do not, ahead of %d", n)
		}
		// What lies behind the end is not asked.
		if !impl.HoldAll(append(slices.Clone(good[:n]), bad...)[:n], l) {
			t.Errorf("all that do not, behind the end of %d", n)
		}
	}
}

func TestHoldAllOfEachList(t *testing.T) {
	x, y, one := avar("X"), avar("Y"), aval(num(1))
	of := conds(cond(impl.CSame, x, one), cond(impl.COther, x, y), cond(impl.CLess, y, x), cond(impl.CSame, y, y), impl.Cond{})
	for _, cs := range listsOf(of, 4) {
		for _, l := range boundAhead() {
			want := !slices.ContainsFunc(cs, func(c impl.Cond) bool { return !holdsByRows(c, l) })
			if got := impl.HoldAll(cs, l); got != want {
				t.Errorf("%v, %v: %v", cs, l, got)
			}
		}
	}
}

func TestManyConditions(t *testing.T) {
	l := boundXY(num(1), num(2))
	cs := slices.Repeat(conds(cond(impl.CLess, avar("X"), avar("Y"))), 5000)
	if !impl.HoldAll(cs, l) {
		t.Error("many")
	}
	cs[len(cs)-1].Op = impl.CSame
	if impl.HoldAll(cs, l) {
		t.Error("many but the last")
	}
}

func TestConditionsWriteIntoNoArgument(t *testing.T) {
	all := inOrder(wrongConds())
	for _, a := range sides() {
		for _, op := range allOps() {
			all = append(all, cond(op, a, avar("X")), cond(op, avar("Y"), a))
		}
	}
	spare := cond(impl.CSame, avar("Spare"), avar("Spare"))
	for _, l := range boundAhead() {
		ahead, cleanAhead := guardedList(l, bind("Spare", num(77)))
		for _, c := range all {
			cs, cleanConds := guardedList(conds(c, c), spare)
			impl.CondOk(c)
			impl.CondText(c)
			impl.ArgVal(c.L, ahead)
			impl.ArgVal(c.R, ahead)
			impl.Holds(c, ahead)
			impl.HoldAll(cs, ahead)
			if !cleanConds() || !cleanAhead() {
				t.Errorf("%v, %v", c, l)
			}
		}
		cs, cleanConds := guardedList(all, spare)
		impl.HoldAll(cs, ahead)
		if !cleanConds() || !cleanAhead() {
			t.Errorf("all, %v", l)
		}
	}
}

// Texts have no memory in common with an argument either.
func TestConditionsShareNoTexts(t *testing.T) {
	name, turnName := textOver("Xyz")
	word, turnWord := textOver("word")
	bound, turnBound := textOver("Bound")
	value, turnValue := textOver("value")
	l := binds(bind(bound, txt(value)))
	text, back := impl.CondText(cond(impl.CSame, avar(name), aval(txt(word)))), impl.CondText(cond(impl.CLess, aval(num(1)), avar(bound)))
	own, okOwn := impl.ArgVal(aval(txt(word)), l)
	there, okThere := impl.ArgVal(avar(bound), l)
	for _, turn := range []func(){turnName, turnWord, turnBound, turnValue} {
		turn()
	}
	if text != "Xyz = 'word'" || back != "1 < Bound" {
		t.Error(text, back)
	}
	if !okOwn || own != txt("word") || !okThere || there != txt("value") {
		t.Error(own, okOwn, there, okThere)
	}
}
