package tests

import (
	"math"
	"slices"
	"strconv"
	"strings"
	"testing"

	"loop.example/g00282/impl"
)

func avar(s string) impl.Arg { return impl.Arg{K: impl.AVar, S: s} }

func aval(v impl.Val) impl.Arg { return impl.Arg{K: impl.AVal, V: v} }

func aany() impl.Arg { return impl.Arg{K: impl.AAny} }

func pat(kind string, args ...impl.Arg) impl.Pat { return impl.Pat{Kind: kind, Args: args} }

func notPat(kind string, args ...impl.Arg) impl.Pat {
	return impl.Pat{Kind: kind, Args: args, Not: true}
}

func bind(name string, v impl.Val) impl.Bind { return impl.Bind{Name: name, V: v} }

func binds(l ...impl.Bind) []impl.Bind { return l }

func goodVars() []string {
	return []string{"A", "X", "Z", "X1", "X_", "Xy", "XY", "A_b_9", twelveVar[:11], twelveVar}
}

// goodArgs are arguments that may be.
func goodArgs() []impl.Arg {
	l := []impl.Arg{aany()}
	for _, s := range goodVars() {
		l = append(l, avar(s))
	}
	for _, v := range goodVals() {
		l = append(l, aval(v))
	}
	return l
}

// wrongArgs are what is no argument, each with its reason.
func wrongArgs() map[string]impl.Arg {
	wrong := map[string]impl.Arg{
		"nothing":                      {},
		"no kind, a variable":          {S: "X"},
		"no kind, a value":             {V: num(1)},
		"a kind of 4":                  {K: 4},
		"a kind of 4, a variable":      {K: 4, S: "X"},
		"a kind of 4, a value":         {K: 4, V: num(1)},
		"a kind below 0":               {K: -1, S: "X"},
		"the least kind":               {K: math.MinInt, V: num(1)},
		"the greatest kind":            {K: math.MaxInt},
		"a variable with a value":      {K: impl.AVar, S: "X", V: num(1)},
		"a variable with a number 0":   {K: impl.AVar, S: "X", V: num(0)},
		"a variable with an N":         {K: impl.AVar, S: "X", V: impl.Val{N: 1}},
		"a variable with a V's text":   {K: impl.AVar, S: "X", V: impl.Val{S: "a"}},
		"a value with a variable":      {K: impl.AVal, S: "X", V: num(1)},
		"a value with its text":        {K: impl.AVal, S: "1", V: num(1)},
		"a value with a blank":         {K: impl.AVal, S: " ", V: txt("a")},
		"a variable as a value":        {K: impl.AVal, S: "X"},
		"a value as a variable":        {K: impl.AVar, V: num(1)},
		"anything with a variable":     {K: impl.AAny, S: "X"},
		"anything with its sign":       {K: impl.AAny, S: "_"},
		"anything with a value":        {K: impl.AAny, V: num(1)},
		"anything with a number 0":     {K: impl.AAny, V: num(0)},
		"anything with an empty text":  {K: impl.AAny, V: txt("")},
		"anything with a V's number":   {K: impl.AAny, V: impl.Val{N: -1}},
		"a variable of nothing":        avar(""),
		"a variable of 13":             avar(twelveVar + "a"),
		"a variable of many":           avar(strings.Repeat("A", 5000)),
		"a variable from a small one":  avar("x"),
		"a name as a variable":         avar("order"),
		"a variable from a digit":      avar("1X"),
		"a variable from _":            avar("_X"),
		"_ as a variable":              avar("_"),
		"a variable with a blank":      avar("X y"),
		"a variable behind a blank":    avar(" X"),
		"a variable ahead of a blank":  avar("X "),
		"a variable with a mark":       avar("X,"),
		"a variable with a byte 0":     avar("X\x00"),
		"a variable with a byte 255":   avar("X\xff"),
		"a variable of two bytes each": avar("\u00c4"),
	}
	for why, v := range wrongVals() {
		wrong["a value: "+why] = aval(v)
	}
	return wrong
}

// goodPats are patterns that may be.
func goodPats() []impl.Pat {
	x, y, one := avar("X"), avar("Y"), aval(num(1))
	l := []impl.Pat{
		pat("a"), {Kind: "a", Args: []impl.Arg{}}, notPat("a"), pat("z9_"), pat(twelve), notPat(twelve, x),
		pat("a", x), pat("a", one), pat("a", aany()), notPat("a", one), notPat("a", aany()),
		pat("a", x, x), pat("a", x, y), pat("b", y, x), pat("b", x, one), pat("b", one, x), pat("b", aany(), x), pat("b", aany(), aany()),
		pat("a", x, one, x, aany(), y), notPat("a", x, one, x, aany(), y), pat("a", x, x, x, x, x), notPat("a", aany(), aany(), aany(), aany(), aany()),
		pat("order", avar(twelveVar), aval(txt(twenty)), aval(num(-impl.MaxInt)), aval(num(impl.MaxInt)), aval(txt(""))),
		pat("a", avar("V"), avar("W"), x, y, avar("Z")),
	}
	for _, a := range goodArgs() {
		l = append(l, pat("k", a), notPat("k", one, one, one, one, a))
	}
	return l
}

// wrongPats are what is no pattern, each with its reason.
func wrongPats() map[string]impl.Pat {
	x, one := avar("X"), aval(num(1))
	wrong := map[string]impl.Pat{
		"nothing":                        {},
		"Not alone":                      {Not: true},
		"no kind, an argument":           pat("", x),
		"a kind of 13 bytes":             pat(twelve+"a", x),
		"a kind of many bytes":           pat(strings.Repeat("a", 5000)),
		"a variable as kind":             pat("A"),
		"a large letter within the kind": pat("aB", x),
		"a digit first in the kind":      pat("1a"),
		"a _ first in the kind":          pat("_a", one),
		"a _ as kind":                    pat("_"),
		"a blank in the kind":            pat("a b", x),
		"a ! in the kind":                pat("!a"),
		"a bracket in the kind":          pat("a("),
		"a byte 0 in the kind":           pat("a\x00"),
		"a byte 255 as kind":             pat("\xff", x),
		"a kind of two bytes each":       pat("\u00e4"),
		"6 arguments":                    pat("a", x, x, x, x, x, x),
		"6 arguments that are anything":  pat("a", aany(), aany(), aany(), aany(), aany(), aany()),
		"6 arguments, and Not":           notPat("a", one, one, one, one, one, one),
		"many arguments":                 pat("a", slices.Repeat([]impl.Arg{x, one, aany()}, 300)...),
		"6 arguments, and no kind":       pat("", x, x, x, x, x, x),
	}
	for why, a := range wrongArgs() {
		wrong["an argument: "+why] = pat("a", a)
		wrong["an argument of what is Not: "+why] = notPat("a", a)
		wrong["the second argument: "+why] = pat("a", x, a, one)
		wrong["the fifth argument: "+why] = pat("a", one, aany(), x, one, a)
	}
	return wrong
}

// boundAhead are lists as they may be bound ahead of a pattern, right or not.
func boundAhead() [][]impl.Bind {
	return [][]impl.Bind{
		nil, {},
		binds(bind("X", num(1))), binds(bind("X", num(2))), binds(bind("X", txt("a"))), binds(bind("X", txt("1"))), binds(bind("Y", num(1))), binds(bind("Z", num(1))),
		binds(bind("X", num(1)), bind("Y", num(2))), binds(bind("Y", num(2)), bind("X", num(1))), binds(bind("W", txt("q")), bind("X", num(2))),
		binds(bind("X", num(1)), bind("X", num(2))), binds(bind("X", num(2)), bind("X", num(1))), binds(bind("X", num(1)), bind("X", num(1))), binds(bind("Y", num(1)), bind("X", txt("a")), bind("Y", num(2)), bind("X", num(1))),
		binds(bind("X", impl.Val{})), binds(bind("", num(1))), binds(bind("", impl.Val{}), bind("x", num(1))), binds(bind("X", impl.Val{K: impl.VInt, N: 1, S: "a"})),
	}
}

func checkMatch(t *testing.T, p impl.Pat, f impl.Fact, l []impl.Bind, want ...impl.Bind) {
	t.Helper()
	if got, ok := impl.MatchPat(p, f, l); !ok || !slices.Equal(got, want) {
		t.Errorf("%v, %v, %v: %v %v, not %v", p, f, l, got, ok, want)
	}
}

// checkNoMatch wants what was bound ahead, and no more, beside the false.
func checkNoMatch(t *testing.T, p impl.Pat, f impl.Fact, l []impl.Bind) {
	t.Helper()
	if got, ok := impl.MatchPat(p, f, l); ok || !slices.Equal(got, l) {
		t.Errorf("%v, %v, %v: %v %v", p, f, l, got, ok)
	}
}

func TestKindsOfArguments(t *testing.T) {
	if impl.AVar != 1 || impl.AVal != 2 || impl.AAny != 3 {
		t.Error(impl.AVar, impl.AVal, impl.AAny)
	}
}

func TestArgOk(t *testing.T) { checkOks(t, impl.ArgOk, goodArgs(), wrongArgs()) }

func TestVariablesAreThoseOfTokens(t *testing.T) {
	for c := range 256 {
		b := string([]byte{byte(c)})
		for _, s := range []string{b, "A" + b, b + "A", "A" + b + "b", twelveVar[:11] + b, twelveVar + b} {
			if impl.ArgOk(avar(s)) != impl.TokenOk(kvar(s)) {
				t.Errorf("%q", s)
			}
		}
	}
	for n := range 40 {
		if s := strings.Repeat("A", n); impl.ArgOk(avar(s)) != (1 <= n && n <= 12) {
			t.Errorf("%d letters", n)
		}
	}
}

// What a kind names and what it does not, in every mixture.
func TestArgOkOfEachMixture(t *testing.T) {
	vals := []impl.Val{{}, num(0), num(7), txt(""), txt("a"), {N: 1}, {S: "a"}, {K: 3}, num(impl.MaxInt + 1), txt("A")}
	for k := -2; k <= 6; k++ {
		for _, s := range []string{"", "X", "x", "_", "1"} {
			for _, v := range vals {
				want := k == impl.AVar && s == "X" && v == vals[0] || k == impl.AVal && s == "" && slices.Contains(vals[1:5], v) || k == impl.AAny && s == "" && v == vals[0]
				if got := impl.ArgOk(impl.Arg{K: k, S: s, V: v}); got != want {
					t.Errorf("%d %q %v: %v", k, s, v, got)
				}
			}
		}
	}
}

func TestPatOk(t *testing.T) {
	checkOks(t, impl.PatOk, goodPats(), wrongPats())
	for _, p := range goodPats() {
		p.Not = !p.Not
		if !impl.PatOk(p) {
			t.Errorf("%v may be", p)
		}
	}
}

func TestPatternsOfNoughtToSevenArguments(t *testing.T) {
	for n := range 8 {
		for _, a := range []impl.Arg{avar("X"), aval(num(7)), aany()} {
			p := pat("k", slices.Repeat([]impl.Arg{a}, n)...)
			if impl.PatOk(p) != (n <= 5) {
				t.Errorf("%d arguments: %v", n, impl.PatOk(p))
			}
			text := map[int]string{impl.AVar: "X", impl.AVal: "7", impl.AAny: "_"}[a.K]
			want := ""
			if n <= 5 {
				want = "k(" + strings.Join(slices.Repeat([]string{text}, n), ", ") + ")"
			}
			if s := impl.PatText(p); s != want {
				t.Errorf("%d arguments: %q", n, s)
			}
		}
	}
}

func TestPatternKindsAreNames(t *testing.T) {
	for c := range 256 {
		s := string([]byte{byte(c)})
		for _, kind := range []string{s, "a" + s, "a" + s + "b", "abcdefghijk" + s, "abcdefghijkl" + s} {
			if p := pat(kind, aany()); impl.PatOk(p) != impl.NameOk(kind) || impl.NameOk(kind) != (impl.PatText(p) != "") {
				t.Errorf("%q", kind)
			}
		}
	}
}

func TestPatTexts(t *testing.T) {
	x, one := avar("X"), aval(num(1))
	checkTexts(t, impl.PatText, map[string]impl.Pat{
		"a()": pat("a"), "!a()": notPat("a"), "a(X)": pat("a", x), "!a(X)": notPat("a", x), "a(_)": pat("a", aany()), "!a(_)": notPat("a", aany()), "a(1)": pat("a", one), "a(-1)": pat("a", aval(num(-1))), "a('')": pat("a", aval(txt(""))), "a('x')": pat("a", aval(txt("x"))),
		"a(0, '0')":         pat("a", aval(num(0)), aval(txt("0"))),
		"a(X, 1, X, _, Y)":  pat("a", x, one, x, aany(), avar("Y")),
		"!a(X, 1, X, _, Y)": notPat("a", x, one, x, aany(), avar("Y")),
		"!b(_, _, _, _, _)": notPat("b", aany(), aany(), aany(), aany(), aany()),
		twelve + "(" + twelveVar + ", '" + twenty + "', -1000000000, 1000000000)": pat(twelve, avar(twelveVar), aval(txt(twenty)), aval(num(-impl.MaxInt)), aval(num(impl.MaxInt))),
	}, wrongPats())
}

// checkTexts wants of each what it stands by in right, and nothing of what is wrong.
func checkTexts[T any](t *testing.T, textOf func(T) string, right map[string]T, wrong map[string]T) {
	t.Helper()
	for want, x := range right {
		if got := textOf(x); got != want {
			t.Errorf("%v: %q, not %q", x, got, want)
		}
	}
	for why, x := range wrong {
		if got := textOf(x); got != "" {
			t.Errorf("%s: %q", why, got)
		}
	}
}

// Of patterns without a sign their text has these tokens, so a parser finds them there.
func TestTokensOfPatTexts(t *testing.T) {
	of := map[int]func(a impl.Arg) impl.Token{
		impl.AVar: func(a impl.Arg) impl.Token { return kvar(a.S) },
		impl.AAny: func(impl.Arg) impl.Token { return kmark("_") },
		impl.AVal: func(a impl.Arg) impl.Token {
			if a.V.K == impl.VInt {
				return kint(a.V.N)
			}
			return ktext(a.V.S)
		},
	}
	for _, p := range goodPats() {
		if slices.ContainsFunc(p.Args, func(a impl.Arg) bool { return a.V.N < 0 }) {
			continue
		}
		var want []impl.Token
		if p.Not {
			want = append(want, kmark("!"))
		}
		want = append(want, kname(p.Kind), kmark("("))
		for i, a := range p.Args {
			if i > 0 {
				want = append(want, kmark(","))
			}
			want = append(want, of[a.K](a))
		}
		checkLex(t, impl.PatText(p), append(want, kmark(")"))...)
	}
}

// No two patterns have one text, nor does Not pass unseen.
func TestPatTextsTellPatternsApart(t *testing.T) {
	args := []impl.Arg{aany(), avar("X"), avar("Y"), aval(num(1)), aval(num(-1)), aval(txt("1")), aval(txt("")), aval(txt("x"))}
	seen := map[string]bool{}
	count := 0
	for _, kind := range []string{"a", "x", "ax"} {
		for _, not := range []bool{false, true} {
			for _, l := range listsOf(args, 3) {
				seen[impl.PatText(impl.Pat{Kind: kind, Args: l, Not: not})] = true
				count++
			}
		}
	}
	if seen[""] || len(seen) != count {
		t.Error(len(seen), count)
	}
}

// listsOf are all lists of at most this many of them.
func listsOf[T any](of []T, most int) [][]T {
	all := [][]T{nil}
	for from, size := 0, 0; size < most; size++ {
		upTo := len(all)
		for _, l := range all[from:upTo] {
			for _, x := range of {
				all = append(all, append(slices.Clone(l), x))
			}
		}
		from = upTo
	}
	return all
}

func TestVarsOf(t *testing.T) {
	w, x, y, z, one := avar("W"), avar("X"), avar("Y"), avar("Z"), aval(num(1))
	for _, c := range []struct {
		p    impl.Pat
		want []string
	}{
		{pat("a"), nil}, {notPat("a"), nil}, {pat("a", aany()), nil}, {pat("a", one, aval(txt("x")), aany()), nil},
		{pat("a", x), []string{"X"}}, {notPat("a", x), []string{"X"}}, {pat("a", x, x), []string{"X"}}, {pat("a", x, x, x, x, x), []string{"X"}},
		{pat("a", x, y), []string{"X", "Y"}}, {pat("a", y, x), []string{"Y", "X"}}, {pat("a", y, x, y), []string{"Y", "X"}}, {pat("a", y, y, x, x, y), []string{"Y", "X"}},
		{pat("a", one, z, aany(), w, z), []string{"Z", "W"}}, {pat("a", z, y, x, w, avar("V")), []string{"Z", "Y", "X", "W", "V"}},
		{pat("a", avar("X1"), avar("X"), avar("Xx"), avar("XX"), avar("X_")), []string{"X1", "X", "Xx", "XX", "X_"}},
		{pat(""), nil}, {pat("", x), []string{"X"}}, {pat("A b", y, x), []string{"Y", "X"}},
		{pat("a", avar("A"), avar("B"), avar("C"), avar("D"), avar("E"), avar("F"), avar("A"), avar("G")), []string{"A", "B", "C", "D", "E", "F", "G"}},
		{pat("a", impl.Arg{S: "A"}, impl.Arg{K: 4, S: "B"}, impl.Arg{K: impl.AAny, S: "C"}, impl.Arg{K: impl.AVal, S: "D", V: num(1)}, x), []string{"X"}},
		{pat("a", impl.Arg{K: impl.AVar, S: "Y", V: num(1)}, x, y), []string{"Y", "X"}},
		{pat("a", avar("x"), avar(""), avar("x"), x, avar("")), []string{"x", "", "X"}},
	} {
		if got := impl.VarsOf(c.p); !slices.Equal(got, c.want) {
			t.Errorf("%v: %q, not %q", c.p, got, c.want)
		}
	}
}

func TestBindOf(t *testing.T) {
	l := binds(bind("X", num(1)), bind("Y", txt("a")), bind("X", num(2)), bind("", txt("none")), bind("Z", impl.Val{}), bind("Y", num(0)), bind("x", num(9)), bind("W", impl.Val{K: 7, N: 8, S: "B"}))
	for name, want := range map[string]impl.Val{"X": num(1), "Y": txt("a"), "": txt("none"), "Z": {}, "x": num(9), "W": {K: 7, N: 8, S: "B"}} {
		if v, ok := impl.BindOf(l, name); !ok || v != want {
			t.Errorf("%q: %v %v", name, v, ok)
		}
	}
	for _, name := range []string{"y", "z", "XX", "X ", " X", "V", "X\x00", "\xff"} {
		if v, ok := impl.BindOf(l, name); ok || v != (impl.Val{}) {
			t.Errorf("%q: %v %v", name, v, ok)
		}
	}
	for _, none := range [][]impl.Bind{nil, {}, l[:0]} {
		for _, name := range []string{"X", "Y", ""} {
			if v, ok := impl.BindOf(none, name); ok || v != (impl.Val{}) {
				t.Errorf("of nothing, %q: %v %v", name, v, ok)
			}
		}
	}
	if v, ok := impl.BindOf(l[:1], "Y"); ok || v != (impl.Val{}) {
		t.Error("what lies behind the end is found:", v)
	}
}

func TestMatchOfWhatBindsNothing(t *testing.T) {
	for _, l := range boundAhead() {
		checkMatch(t, pat("a"), fact("a"), l, l...)
		checkMatch(t, impl.Pat{Kind: "a", Args: []impl.Arg{}}, impl.Fact{Kind: "a", Fields: []impl.Val{}}, l, l...)
		for _, v := range goodVals() {
			checkMatch(t, pat("a", aany()), fact("a", v), l, l...)
			checkMatch(t, pat("a", aval(v)), fact("a", v), l, l...)
			checkMatch(t, pat("a", aany(), aval(v), aany(), aval(v), aany()), fact("a", num(5), v, v, v, txt("x")), l, l...)
		}
	}
}

// A value matches itself alone.
func TestMatchOfEachValue(t *testing.T) {
	for i, v := range goodVals() {
		for k, w := range goodVals() {
			if i == k {
				checkMatch(t, pat("k", aval(v)), fact("k", w), nil)
				checkMatch(t, pat("k", avar("X"), avar("X")), fact("k", v, w), nil, bind("X", v))
				checkMatch(t, pat("k", avar("X")), fact("k", w), binds(bind("X", v)), bind("X", v))
			} else {
				checkNoMatch(t, pat("k", aval(v)), fact("k", w), nil)
				checkNoMatch(t, pat("k", avar("X"), avar("X")), fact("k", v, w), nil)
				checkNoMatch(t, pat("k", avar("X")), fact("k", w), binds(bind("X", v)))
			}
		}
	}
}

// What a pattern binds is what the fact has there.
func TestMatchBindsWhatTheFactHasThere(t *testing.T) {
	for _, s := range goodVars() {
		for _, v := range goodVals() {
			checkMatch(t, pat("k", avar(s)), fact("k", v), nil, bind(s, v))
			checkMatch(t, pat("k", aany(), avar(s)), fact("k", num(5), v), nil, bind(s, v))
			checkMatch(t, pat("k", aval(num(5)), aany(), aany(), aany(), avar(s)), fact("k", num(5), num(6), num(7), num(8), v), nil, bind(s, v))
		}
	}
	v, w, x, y, z := avar("V"), avar("W"), avar("X"), avar("Y"), avar("Z")
	checkMatch(t, pat("k", z, y, x, w, v), fact("k", num(1), num(2), num(3), txt("4"), txt("")), nil, bind("Z", num(1)), bind("Y", num(2)), bind("X", num(3)), bind("W", txt("4")), bind("V", txt("")))
	checkMatch(t, pat("k", x, y), fact("k", num(1), num(1)), nil, bind("X", num(1)), bind("Y", num(1)))
	checkMatch(t, pat("k", avar("X"), avar("X1"), avar("Xx")), fact("k", num(1), num(2), num(3)), nil, bind("X", num(1)), bind("X1", num(2)), bind("Xx", num(3)))
}

func TestMatchOfAVariableThatComesTwice(t *testing.T) {
	x, y := avar("X"), avar("Y")
	checkMatch(t, pat("k", x, x), fact("k", num(1), num(1)), nil, bind("X", num(1)))
	checkMatch(t, pat("k", x, y, x), fact("k", num(1), num(2), num(1)), nil, bind("X", num(1)), bind("Y", num(2)))
	checkMatch(t, pat("k", x, y, x, y, x), fact("k", txt("a"), txt(""), txt("a"), txt(""), txt("a")), nil, bind("X", txt("a")), bind("Y", txt("")))
	checkMatch(t, pat("k", x, x, x, x, x), fact("k", num(0), num(0), num(0), num(0), num(0)), nil, bind("X", num(0)))
	checkNoMatch(t, pat("k", x, x), fact("k", num(1), num(2)), nil)
	checkNoMatch(t, pat("k", x, x), fact("k", num(1), txt("1")), nil)
	checkNoMatch(t, pat("k", x, x), fact("k", num(0), txt("")), nil)
	checkNoMatch(t, pat("k", x, y, x), fact("k", num(1), num(2), num(2)), nil)
	for at := range 5 {
		f := fact("k", num(3), num(3), num(3), num(3), num(3))
		f.Fields[at] = num(4)
		checkNoMatch(t, pat("k", x, x, x, x, x), f, nil)
		checkNoMatch(t, pat("k", x, x, x, x, x), f, binds(bind("X", num(3))))
		checkNoMatch(t, pat("k", x, x, x, x, x), f, binds(bind("X", num(4))))
	}
}

func TestMatchOfAVariableThatIsBoundAhead(t *testing.T) {
	x, y, z := avar("X"), avar("Y"), avar("Z")
	ahead := binds(bind("Y", num(7)), bind("X", txt("a")))
	checkMatch(t, pat("k", x), fact("k", txt("a")), ahead, ahead...)
	checkMatch(t, pat("k", x, y), fact("k", txt("a"), num(7)), ahead, ahead...)
	checkMatch(t, pat("k", x, x, y), fact("k", txt("a"), txt("a"), num(7)), ahead, ahead...)
	checkMatch(t, pat("k", z), fact("k", num(1)), ahead, bind("Y", num(7)), bind("X", txt("a")), bind("Z", num(1)))
	checkMatch(t, pat("k", z, x), fact("k", num(1), txt("a")), ahead, bind("Y", num(7)), bind("X", txt("a")), bind("Z", num(1)))
	checkMatch(t, pat("k", avar("A"), y, z, x, avar("A")), fact("k", num(2), num(7), num(1), txt("a"), num(2)), ahead, bind("Y", num(7)), bind("X", txt("a")), bind("A", num(2)), bind("Z", num(1)))
	checkNoMatch(t, pat("k", x), fact("k", num(7)), ahead)
	checkNoMatch(t, pat("k", y), fact("k", num(8)), ahead)
	checkNoMatch(t, pat("k", x, y), fact("k", txt("a"), num(8)), ahead)
	checkNoMatch(t, pat("k", x, y), fact("k", txt("b"), num(7)), ahead)
	checkNoMatch(t, pat("k", x, x), fact("k", num(1), num(1)), ahead)
	checkNoMatch(t, pat("k", x, x), fact("k", txt("a"), txt("b")), ahead)
}

// Of two of one name that are bound ahead the first counts, and both stay.
func TestMatchOfTwoOfOneNameAhead(t *testing.T) {
	x, y := avar("X"), avar("Y")
	ahead := binds(bind("X", num(1)), bind("Y", num(5)), bind("X", num(2)))
	checkMatch(t, pat("k", x), fact("k", num(1)), ahead, ahead...)
	checkMatch(t, pat("k", x, y, x), fact("k", num(1), num(5), num(1)), ahead, ahead...)
	checkMatch(t, pat("k", x, avar("Z")), fact("k", num(1), num(2)), ahead, bind("X", num(1)), bind("Y", num(5)), bind("X", num(2)), bind("Z", num(2)))
	checkNoMatch(t, pat("k", x), fact("k", num(2)), ahead)
	checkNoMatch(t, pat("k", x, x), fact("k", num(1), num(2)), ahead)
	checkNoMatch(t, pat("k", x, x), fact("k", num(2), num(1)), ahead)
	checkMatch(t, pat("k", y), fact("k", num(1)), binds(bind("X", num(1)), bind("X", num(1))), bind("X", num(1)), bind("X", num(1)), bind("Y", num(1)))
}

// What an earlier argument bound is not told, once a later one does not match; nor is a later one.
func TestMatchTellsNothingNewWhereThereIsNone(t *testing.T) {
	x, y, one := avar("X"), avar("Y"), aval(num(1))
	for _, ahead := range [][]impl.Bind{nil, {}, binds(bind("W", num(9))), binds(bind("W", num(9)), bind("V", txt("v")))} {
		checkNoMatch(t, pat("k", x, one), fact("k", num(5), num(2)), ahead)
		checkNoMatch(t, pat("k", one, x), fact("k", num(2), num(5)), ahead)
		checkNoMatch(t, pat("k", x, y, x), fact("k", num(5), num(6), num(7)), ahead)
		checkNoMatch(t, pat("k", x, avar("W")), fact("k", num(5), num(8)), append(slices.Clone(ahead), bind("W", num(9))))
		checkNoMatch(t, pat("k", x, y, avar("Z"), avar("A"), one), fact("k", num(5), num(6), num(7), num(8), num(0)), ahead)
		checkNoMatch(t, pat("k", one, x, y, avar("Z"), avar("A")), fact("k", num(0), num(5), num(6), num(7), num(8)), ahead)
		checkNoMatch(t, pat("k", x, x, y), fact("k", num(5), num(6), num(7)), ahead)
	}
}

func TestMatchOfAnotherKind(t *testing.T) {
	kinds := []string{"a", "b", "ab", "a_", "aa", "A", "", "a\x00", twelve, twelve + "a"}
	for _, kind := range kinds {
		for _, other := range kinds {
			for _, l := range boundAhead() {
				if kind == other {
					checkMatch(t, pat(kind, aany()), fact(other, num(1)), l, l...)
					checkMatch(t, pat(kind), fact(other), l, l...)
				} else {
					checkNoMatch(t, pat(kind, aany()), fact(other, num(1)), l)
					checkNoMatch(t, pat(kind, avar("New")), fact(other, num(1)), l)
					checkNoMatch(t, pat(kind), fact(other), l)
				}
			}
		}
	}
}

func TestMatchOfAFieldLessAndOneMore(t *testing.T) {
	for n := range 8 {
		for m := range 8 {
			for _, l := range boundAhead() {
				for _, a := range []impl.Arg{avar("Free"), aval(num(1)), aany()} {
					p, f := pat("k", slices.Repeat([]impl.Arg{a}, n)...), fact("k", slices.Repeat([]impl.Val{num(1)}, m)...)
					switch {
					case n != m:
						checkNoMatch(t, p, f, l)
					case n > 0 && a.K == impl.AVar:
						checkMatch(t, p, f, l, append(slices.Clone(l), bind("Free", num(1)))...)
					default:
						checkMatch(t, p, f, l, l...)
					}
				}
			}
		}
	}
}

func TestNotDoesNotMatterToAMatch(t *testing.T) {
	for _, p := range goodPats() {
		other := p
		other.Not = !p.Not
		for _, f := range goodFacts() {
			for _, l := range boundAhead() {
				one, okOne := impl.MatchPat(p, f, l)
				two, okTwo := impl.MatchPat(other, f, l)
				if okOne != okTwo || !slices.Equal(one, two) {
					t.Errorf("%v, %v, %v: %v %v, %v %v", p, f, l, one, okOne, two, okTwo)
				}
			}
		}
	}
}

// The chapter asks of a match no more than it says, so what is not right may match too.
func TestMatchOfWhatIsNotRight(t *testing.T) {
	no, great := impl.Val{}, num(math.MaxInt)
	both := impl.Val{K: impl.VInt, N: 1, S: "a"}
	checkMatch(t, pat(""), impl.Fact{}, nil)
	checkMatch(t, pat("A b", avar("X")), fact("A b", num(1)), nil, bind("X", num(1)))
	checkMatch(t, pat("a", avar("X"), avar("Y")), fact("a", no, great), nil, bind("X", no), bind("Y", great))
	checkMatch(t, pat("a", aval(no), aval(great), aval(both)), fact("a", no, great, both), nil)
	checkNoMatch(t, pat("a", aval(both)), fact("a", num(1)), nil)
	checkNoMatch(t, pat("a", aval(num(1))), fact("a", both), nil)
	checkNoMatch(t, pat("a", avar("X"), avar("X")), fact("a", num(1), both), nil)
	checkNoMatch(t, pat("a", avar("X")), fact("a", num(0)), binds(bind("X", no)))
	checkMatch(t, pat("a", avar("X")), fact("a", no), binds(bind("X", no)), bind("X", no))
	checkMatch(t, pat("a", avar(""), avar("x"), avar("")), fact("a", num(1), num(2), num(1)), nil, bind("", num(1)), bind("x", num(2)))
	checkNoMatch(t, pat("a", avar(""), avar("")), fact("a", num(1), num(2)), nil)
	checkMatch(t, pat("a", impl.Arg{K: impl.AVar, S: "X", V: num(9)}), fact("a", num(1)), nil, bind("X", num(1)))
	checkMatch(t, pat("a", impl.Arg{K: impl.AVal, S: "X", V: num(1)}), fact("a", num(1)), nil)
	checkMatch(t, pat("a", impl.Arg{K: impl.AAny, S: "X", V: num(9)}), fact("a", num(1)), nil)
	for _, k := range []int{math.MinInt, -1, 0, 4, math.MaxInt} {
		checkMatch(t, pat("a", impl.Arg{K: k, S: "X", V: num(9)}, avar("Y")), fact("a", num(1), num(2)), nil, bind("Y", num(2)))
	}
	var args []impl.Arg
	var want []impl.Bind
	many := fact("a")
	for i := range 300 {
		name := "V" + strconv.Itoa(i)
		args, many.Fields, want = append(args, avar(name)), append(many.Fields, num(i)), append(want, bind(name, num(i)))
	}
	checkMatch(t, pat("a", args...), many, nil, want...)
	checkNoMatch(t, pat("a", append(args[:299:299], aval(num(0)))...), many, nil)
}

func TestWhatLiesBehindAPatternIsNotRead(t *testing.T) {
	args := []impl.Arg{avar("X"), aany(), {}, avar("Y"), aany(), aany(), aany()}
	p := impl.Pat{Kind: "a", Args: args[:2]}
	if !impl.PatOk(p) || impl.PatText(p) != "a(X, _)" || !slices.Equal(impl.VarsOf(p), []string{"X"}) {
		t.Error(p)
	}
	vals := []impl.Val{num(1), num(2), num(3)}
	ahead := binds(bind("W", num(0)), bind("X", num(9)))
	checkMatch(t, p, impl.Fact{Kind: "a", Fields: vals[:2]}, ahead[:1], bind("W", num(0)), bind("X", num(1)))
	checkNoMatch(t, p, impl.Fact{Kind: "a", Fields: vals[:1]}, ahead[:1])
}

// matchAtOnce tells of all places at once what MatchPat finds from the left.
func matchAtOnce(p impl.Pat, f impl.Fact, l []impl.Bind) ([]impl.Bind, bool) {
	if p.Kind != f.Kind || len(p.Args) != len(f.Fields) {
		return l, false
	}
	first := map[string]impl.Val{}
	for i, a := range slices.Backward(p.Args) {
		if a.K == impl.AVar {
			first[a.S] = f.Fields[i]
		}
	}
	for _, b := range slices.Backward(l) {
		first[b.Name] = b.V
	}
	out := slices.Clone(l)
	for i, a := range p.Args {
		if a.K == impl.AVal && a.V != f.Fields[i] || a.K == impl.AVar && first[a.S] != f.Fields[i] {
			return l, false
		}
		if a.K == impl.AVar && !slices.ContainsFunc(out, func(b impl.Bind) bool { return b.Name == a.S }) {
			out = append(out, bind(a.S, f.Fields[i]))
		}
	}
	return out, true
}

func checkMatchAtOnce(t *testing.T, p impl.Pat, f impl.Fact, l []impl.Bind) {
	t.Helper()
	if want, ok := matchAtOnce(p, f, l); ok {
		checkMatch(t, p, f, l, want...)
	} else {
		checkNoMatch(t, p, f, l)
	}
}

func TestMatchOfAllSmallPatterns(t *testing.T) {
	args := []impl.Arg{aany(), avar("X"), avar("Y"), aval(num(1)), aval(txt("a")), {}}
	vals := []impl.Val{num(1), num(2), txt("a")}
	for _, few := range listsOf(args, 3) {
		for _, fields := range listsOf(vals, 3) {
			for _, l := range boundAhead() {
				checkMatchAtOnce(t, pat("k", few...), fact("k", fields...), l)
			}
		}
	}
}

func TestMatchOfManyPatterns(t *testing.T) {
	seed := uint32(11)
	roll := func(n int) int {
		seed = seed*1664525 + 1013904223
		return int(seed>>8) % n
	}
	vals := []impl.Val{num(1), num(-1), txt("1"), txt("")}
	args := []impl.Arg{aany(), avar("X"), avar("Y"), avar("Z"), avar("X"), aval(vals[0]), aval(vals[2])}
	names := []string{"W", "X", "Y", "Z"}
	matches := 0
	for range 200000 {
		p, f := impl.Pat{Kind: "k", Not: roll(2) == 0}, impl.Fact{Kind: "k"}
		size := roll(6)
		for range size {
			p.Args, f.Fields = append(p.Args, args[roll(len(args))]), append(f.Fields, vals[roll(1+roll(len(vals)))])
		}
		var l []impl.Bind
		for range roll(4) {
			l = append(l, bind(names[roll(len(names))], vals[roll(1+roll(len(vals)))]))
		}
		checkMatchAtOnce(t, p, f, l)
		if _, ok := impl.MatchPat(p, f, l); ok {
			matches++
		}
	}
	if matches < 20000 || matches > 180000 {
		t.Error("too few are of either kind:", matches)
	}
}

// What matched is found again: with what it bound it matches once more, and binds nothing new.
func TestWhatMatchedMatchesAgain(t *testing.T) {
	for _, p := range goodPats() {
		for _, f := range goodFacts() {
			f = fact(p.Kind, f.Fields...)
			for _, l := range boundAhead() {
				got, ok := impl.MatchPat(p, f, l)
				if !ok {
					continue
				}
				checkMatch(t, p, f, got, got...)
				for i, a := range p.Args {
					if v, there := impl.BindOf(got, a.S); a.K == impl.AVar && (!there || v != f.Fields[i]) {
						t.Errorf("%v, %v, %v: %s is %v", p, f, l, a.S, v)
					}
				}
			}
		}
	}
}

// guardedList is l with spare room behind it, and tells whether nobody wrote to either.
func guardedList[T comparable](l []T, spare T) ([]T, func() bool) {
	all := append(slices.Clone(l), slices.Repeat([]T{spare}, 8)...)
	was := slices.Clone(all)
	return all[:len(l)], func() bool { return slices.Equal(all, was) }
}

func guardedPat(p impl.Pat) (impl.Pat, func() bool) {
	args, clean := guardedList(p.Args, avar("Spare"))
	return impl.Pat{Kind: p.Kind, Args: args, Not: p.Not}, clean
}

// patsAndFacts are patterns with facts that they match and others, and with what is bound ahead.
func patsAndFacts(check func(p impl.Pat, f impl.Fact, l []impl.Bind)) {
	for _, p := range append(goodPats(), inOrder(wrongPats())...) {
		facts := []impl.Fact{{}, fact(p.Kind), fact(p.Kind, slices.Repeat([]impl.Val{num(1)}, len(p.Args))...), fact(p.Kind, slices.Repeat([]impl.Val{txt("a")}, len(p.Args))...)}
		for _, f := range facts {
			for _, l := range boundAhead() {
				check(p, f, l)
			}
		}
	}
}

func TestPatternsWriteIntoNoArgument(t *testing.T) {
	patsAndFacts(func(p impl.Pat, f impl.Fact, l []impl.Bind) {
		q, cleanPat := guardedPat(p)
		g, cleanFact := guardedFact(f)
		ahead, cleanAhead := guardedList(l, bind("Spare", num(77)))
		impl.PatOk(q)
		impl.VarsOf(q)
		impl.PatText(q)
		impl.BindOf(ahead, "X")
		impl.MatchPat(q, g, ahead)
		if !cleanPat() || !cleanFact() || !cleanAhead() {
			t.Errorf("%v, %v, %v", p, f, l)
		}
	})
}

func TestMatchesShareNoMemory(t *testing.T) {
	patsAndFacts(func(p impl.Pat, f impl.Fact, l []impl.Bind) {
		want, wantOk := matchAtOnce(p, f, l)
		want = slices.Clone(want)
		q, cleanPat := guardedPat(p)
		g, cleanFact := guardedFact(f)
		ahead, cleanAhead := guardedList(l, bind("Spare", num(77)))
		one, _ := impl.MatchPat(q, g, ahead)
		two, ok := impl.MatchPat(q, g, ahead)
		spare := one[:cap(one)]
		for i := range spare {
			spare[i] = bind("No", num(99))
		}
		if !cleanPat() || !cleanFact() || !cleanAhead() {
			t.Errorf("%v, %v, %v: an answer shares memory", p, f, l)
		}
		for i := range ahead {
			ahead[i] = bind("No", num(98))
		}
		for i := range g.Fields {
			g.Fields[i] = num(98)
		}
		for i := range q.Args {
			q.Args[i] = avar("No")
		}
		if ok != wantOk || !slices.Equal(two, want) {
			t.Errorf("%v, %v, %v: %v %v turns with its argument", p, f, l, two, ok)
		}
	})
}

// What no list of the program holds is not handed out in the spare room of an answer.
func TestMatchesHandOutNothingBehindTheirLength(t *testing.T) {
	p, f := pat("k", avar("X"), avar("Y"), aval(num(1))), fact("k", num(5), num(6), num(2))
	for _, l := range boundAhead() {
		got, _ := impl.MatchPat(p, f, l)
		for _, b := range got[len(got):cap(got)] {
			if b != (impl.Bind{}) {
				t.Errorf("%v: %v behind the end", l, b)
			}
		}
	}
}

// Texts have no memory in common with an argument either.
func TestPatternsShareNoTexts(t *testing.T) {
	name, turnName := textOver("Xyz")
	word, turnWord := textOver("word")
	there, turnThere := textOver("there")
	kind, turnKind := textOver("kind")
	bound, turnBound := textOver("Bound")
	value, turnValue := textOver("value")
	p := pat(kind, avar(name), aval(txt(word)))
	l := binds(bind(bound, txt(value)))
	vars, text := impl.VarsOf(p), impl.PatText(p)
	alone, sole := impl.PatText(pat(kind)), impl.PatText(pat("k", avar(name)))
	got, ok := impl.MatchPat(p, fact(kind, txt(there), txt(word)), l)
	same, no := impl.MatchPat(p, fact(kind, txt(there)), l)
	v, found := impl.BindOf(l, bound)
	for _, turn := range []func(){turnName, turnWord, turnThere, turnKind, turnBound, turnValue} {
		turn()
	}
	if !slices.Equal(vars, []string{"Xyz"}) || text != "kind(Xyz, 'word')" || alone != "kind()" || sole != "k(Xyz)" {
		t.Error(vars, text, alone, sole)
	}
	if !ok || !slices.Equal(got, binds(bind("Bound", txt("value")), bind("Xyz", txt("there")))) {
		t.Error(got, ok)
	}
	if no || !slices.Equal(same, binds(bind("Bound", txt("value")))) || !found || v != txt("value") {
		t.Error(same, no, v, found)
	}
}

func TestVarsOfShareNoMemory(t *testing.T) {
	for _, p := range goodPats() {
		q, clean := guardedPat(p)
		one, two := impl.VarsOf(q), impl.VarsOf(q)
		want := slices.Clone(two)
		spare := one[:cap(one)]
		for i := range spare {
			spare[i] = "No"
		}
		if !clean() || !slices.Equal(two, want) {
			t.Errorf("%v: two answers share memory", p)
		}
	}
}
