package tests

import (
	"fmt"
	"math"
	"math/rand/v2"
	"reflect"
	"regexp"
	"slices"
	"strconv"
	"strings"
	"testing"

	"loop.example/g00282/impl"
)

type constAt struct {
	at int
	v  impl.Val
}

func alpha(kind string, n int, consts ...constAt) impl.Alpha {
	a := impl.Alpha{Kind: kind, N: n}
	for _, c := range consts {
		a.At, a.Consts = append(a.At, c.at), append(a.Consts, c.v)
	}
	return a
}

func chain(pos []int, neg ...int) impl.Chain { return impl.Chain{Pos: pos, Neg: neg} }

func alikeAlphas(a impl.Alpha, b impl.Alpha) bool {
	return sameParts(reflect.ValueOf(a), reflect.ValueOf(b))
}

func alikeNets(a impl.Net, b impl.Net) bool {
	return sameParts(reflect.ValueOf(a), reflect.ValueOf(b))
}

func isZeroNet(n impl.Net) bool { return alikeNets(n, impl.Net{}) }

func cloneAlpha(a impl.Alpha) impl.Alpha {
	a.Consts, a.At = append([]impl.Val(nil), a.Consts...), append([]int(nil), a.At...)
	return a
}

func cloneNet(n impl.Net) impl.Net {
	var out impl.Net
	for _, a := range n.Alphas {
		out.Alphas = append(out.Alphas, cloneAlpha(a))
	}
	for _, c := range n.Chains {
		out.Chains = append(out.Chains, impl.Chain{Pos: append([]int(nil), c.Pos...), Neg: append([]int(nil), c.Neg...)})
	}
	return out
}

// patFrom is a pattern of its text, behind another one if it is Not.
func patFrom(t *testing.T, text string) impl.Pat {
	t.Helper()
	if strings.HasPrefix(text, "!") {
		return ruleFrom(t, "first(), "+text).Pats[1]
	}
	return ruleFrom(t, text).Pats[0]
}

func factFrom(text string) impl.Fact { return known(text).Items[0].F }

// askText is the text of a pattern without what does not matter to what it asks.
func askText(p impl.Pat) string {
	p.Args, p.Not = slices.Clone(p.Args), false
	for i, a := range p.Args {
		if a.K == impl.AVar {
			p.Args[i] = aany()
		}
	}
	return impl.PatText(p)
}

func alphaText(a impl.Alpha) string {
	l := slices.Repeat([]string{"_"}, a.N)
	for i, at := range a.At {
		l[at] = impl.ValText(a.Consts[i])
	}
	return a.Kind + "(" + strings.Join(l, ", ") + ")"
}

// checkAlpha wants of an Alpha that its places are ascending and that each has a value, ahead of what its text tells.
func checkAlpha(t *testing.T, a impl.Alpha, text string) {
	t.Helper()
	last := -1
	for _, at := range a.At {
		if at <= last || at >= a.N {
			t.Fatalf("%v of %q", a, text)
		}
		last = at
	}
	if len(a.Consts) != len(a.At) || alphaText(a) != text {
		t.Fatalf("%v, not of %q", a, text)
	}
}

func TestAlphaOf(t *testing.T) {
	p, one := txt("p"), num(1)
	for text, want := range map[string]impl.Alpha{
		"o()": alpha("o", 0), "order()": alpha("order", 0), "o(X)": alpha("o", 1), "o(_)": alpha("o", 1), "o(1)": alpha("o", 1, constAt{0, one}), "o('p')": alpha("o", 1, constAt{0, p}), "o('1')": alpha("o", 1, constAt{0, txt("1")}),
		"o(X, Y)": alpha("o", 2), "o(X, X)": alpha("o", 2), "o(X, _)": alpha("o", 2), "o(_, _)": alpha("o", 2), "o(X, 'p')": alpha("o", 2, constAt{1, p}), "o('p', X)": alpha("o", 2, constAt{0, p}), "o(_, 1)": alpha("o", 2, constAt{1, one}),
		"o(1, 'p')": alpha("o", 2, constAt{0, one}, constAt{1, p}), "o('p', 1)": alpha("o", 2, constAt{0, p}, constAt{1, one}), "o(1, 1)": alpha("o", 2, constAt{0, one}, constAt{1, one}),
		"o(X, 0, X)": alpha("o", 3, constAt{1, num(0)}), "o('', X, -3)": alpha("o", 3, constAt{0, txt("")}, constAt{2, num(-3)}), "o(X, Y, Z, _, X)": alpha("o", 5),
		"o(1, 2, 3, 4, 5)":   alpha("o", 5, constAt{0, one}, constAt{1, num(2)}, constAt{2, num(3)}, constAt{3, num(4)}, constAt{4, num(5)}),
		"o(5, X, 'p', X, 1)": alpha("o", 5, constAt{0, num(5)}, constAt{2, p}, constAt{4, one}),
		"o(X, 1, Y, 'p', _)": alpha("o", 5, constAt{1, one}, constAt{3, p}),
		"o(_, _, _, _, 'p')": alpha("o", 5, constAt{4, p}),
		twelve + "('" + twenty + "', " + strconv.Itoa(-impl.MaxInt) + ")": alpha(twelve, 2, constAt{0, txt(twenty)}, constAt{1, num(-impl.MaxInt)}),
	} {
		for _, text := range []string{text, "!" + text} {
			if got := impl.AlphaOf(patFrom(t, text)); !alikeAlphas(got, want) || !impl.SameAlpha(got, want) {
				t.Errorf("%s: %v, not %v", text, got, want)
			}
		}
	}
}

// someArgs are of each kind, with values that differ by their kind or by their text alone.
func someArgs() []impl.Arg {
	return []impl.Arg{avar("X"), avar("Y"), aany(), aval(num(1)), aval(txt("1")), aval(txt("")), aval(num(0))}
}

// What a pattern asks is its text, whatever its variables are, and whether it is Not.
func TestAlphaOfAllMixtures(t *testing.T) {
	count := 0
	for _, args := range listsOf(someArgs(), 5) {
		for _, p := range pats(pat("a", args...), notPat("a", args...)) {
			count++
			checkAlpha(t, impl.AlphaOf(p), askText(p))
		}
	}
	for _, p := range goodPats() {
		checkAlpha(t, impl.AlphaOf(p), askText(p))
	}
	if count < 2*7*7*7*7*7 {
		t.Error(count)
	}
}

// As the chapter asks no more of a pattern, each AVal counts, and nothing else does.
func TestAlphaOfWrongPatterns(t *testing.T) {
	none, one := impl.Val{}, num(1)
	for why, c := range map[string]struct {
		p    impl.Pat
		want impl.Alpha
	}{
		"nothing":                   {impl.Pat{}, impl.Alpha{}},
		"Not alone":                 {impl.Pat{Not: true}, impl.Alpha{}},
		"a kind that is no name":    {pat("No name\x00", aval(one)), alpha("No name\x00", 1, constAt{0, one})},
		"no kind":                   {pat("", avar("X"), aval(one)), alpha("", 2, constAt{1, one})},
		"6 arguments":               {pat("a", avar("X"), aany(), aval(one), aval(one), avar("X"), aval(txt("f"))), alpha("a", 6, constAt{2, one}, constAt{3, one}, constAt{5, txt("f")})},
		"a variable with a value":   {pat("a", impl.Arg{K: impl.AVar, S: "X", V: one}), alpha("a", 1)},
		"anything with a value":     {pat("a", impl.Arg{K: impl.AAny, V: one}, aval(one)), alpha("a", 2, constAt{1, one})},
		"a value with a variable":   {pat("a", impl.Arg{K: impl.AVal, S: "X", V: one}), alpha("a", 1, constAt{0, one})},
		"a value that is none":      {pat("a", impl.Arg{K: impl.AVal}), alpha("a", 1, constAt{0, none})},
		"a value of another kind":   {pat("a", aval(impl.Val{K: 7, N: 8, S: "9"})), alpha("a", 1, constAt{0, impl.Val{K: 7, N: 8, S: "9"}})},
		"a text with a number":      {pat("a", aval(impl.Val{K: impl.VText, N: 1, S: "A"})), alpha("a", 1, constAt{0, impl.Val{K: impl.VText, N: 1, S: "A"}})},
		"the least number":          {pat("a", aval(num(math.MinInt))), alpha("a", 1, constAt{0, num(math.MinInt)})},
		"an argument of no kind":    {pat("a", impl.Arg{V: one}, impl.Arg{}), alpha("a", 2)},
		"arguments of unheard-of K": {pat("a", impl.Arg{K: 4, V: one}, impl.Arg{K: -2, V: one}, impl.Arg{K: impl.AVal + 1<<32, V: one}, impl.Arg{K: math.MinInt, V: one}), alpha("a", 4)},
		"a variable that is none":   {pat("a", avar(""), avar("x")), alpha("a", 2)},
		"arguments without a limit": {pat("a", slices.Repeat([]impl.Arg{aany()}, 5000)...), alpha("a", 5000)},
		"a value far behind":        {pat("a", append(slices.Repeat([]impl.Arg{aany()}, 5000), aval(one))...), alpha("a", 5001, constAt{5000, one})},
	} {
		if got := impl.AlphaOf(c.p); !alikeAlphas(got, c.want) {
			t.Errorf("%s: %v, not %v", why, got, c.want)
		}
	}
	for why, p := range wrongPats() {
		a := impl.AlphaOf(p)
		if a.Kind != p.Kind || a.N != len(p.Args) || len(a.Consts) != len(a.At) || !slices.IsSorted(a.At) {
			t.Fatalf("%s: %v", why, a)
		}
		for i, arg := range p.Args {
			at := slices.Index(a.At, i)
			if (at >= 0) != (arg.K == impl.AVal) || at >= 0 && a.Consts[at] != arg.V {
				t.Errorf("%s: %v", why, a)
			}
		}
	}
}

// someAlphas are Alphas, right or not, of each shape.
func someAlphas() []impl.Alpha {
	return []impl.Alpha{
		{}, alpha("a", 0), alpha("b", 0), alpha("", 1), alpha("a", 1), alpha("a", -1), alpha("a", 5), alpha("a", 1, constAt{0, num(1)}), alpha("a", 1, constAt{0, txt("1")}), alpha("a", 1, constAt{0, txt("")}), alpha("a", 1, constAt{0, num(0)}),
		alpha("a", 2, constAt{0, num(1)}), alpha("a", 2, constAt{1, num(1)}), alpha("a", 2, constAt{0, num(1)}, constAt{1, num(2)}), alpha("a", 2, constAt{0, num(2)}, constAt{1, num(1)}), alpha("a", 2, constAt{1, num(2)}, constAt{0, num(1)}),
		alpha("ab", 5, constAt{1, num(1)}, constAt{3, txt("x")}, constAt{4, num(-3)}), alpha("a", 2, constAt{0, num(1)}, constAt{0, num(1)}),
		{Kind: "a", N: 2, At: []int{0, 1}}, {Kind: "a", N: 2, Consts: []impl.Val{num(1), num(2)}}, {Kind: "a", N: 2, Consts: []impl.Val{num(1)}, At: []int{1, 7}}, {Kind: "a", N: 1, Consts: []impl.Val{{}}, At: []int{-1}}, {Kind: "a", N: 1, Consts: []impl.Val{{K: 9, N: 1, S: "A"}}, At: []int{math.MinInt}},
	}
}

// Each two of all these, and of those that are bent in one part: they are the same just if all their parts are.
func TestSameAlphaOfEachPart(t *testing.T) {
	all := someAlphas()
	for _, a := range someAlphas() {
		bends := 0
		eachBendOf(a, cloneAlpha, func(where string, bent impl.Alpha) {
			bends++
			if impl.SameAlpha(a, bent) || impl.SameAlpha(bent, a) {
				t.Errorf("%v and %v: bent%s", a, bent, where)
			}
			all = append(all, bent)
		})
		if bends < 7 || !impl.SameAlpha(a, a) || !impl.SameAlpha(a, cloneAlpha(a)) || !impl.SameAlpha(cloneAlpha(a), a) {
			t.Errorf("%v, with %d bends", a, bends)
		}
	}
	for _, a := range all {
		for _, b := range all {
			if impl.SameAlpha(a, b) != alikeAlphas(a, b) {
				t.Errorf("%v and %v", a, b)
			}
		}
	}
}

func TestSameAlphaOfEmptyLists(t *testing.T) {
	empty := impl.Alpha{Kind: "a", N: 1, Consts: []impl.Val{}, At: []int{}}
	if !impl.SameAlpha(empty, alpha("a", 1)) || !impl.SameAlpha(alpha("a", 1), empty) || !impl.SameAlpha(empty, empty) {
		t.Error("an empty list is nil")
	}
	if zero := (impl.Alpha{Kind: "a", N: 1, Consts: []impl.Val{{}}, At: []int{0}}); impl.SameAlpha(empty, zero) || impl.SameAlpha(zero, empty) {
		t.Error("a zero value is one")
	}
}

// Patterns ask the same, just if their texts are the same without the names of variables and Not.
func TestWhichPatternsAskTheSame(t *testing.T) {
	for _, group := range [][]string{
		{"o(X, 'p')", "o(Y, 'p')", "o(_, 'p')", "!o(X, 'p')", "!o(Z, 'p')", "!o(_, 'p')"},
		{"o(X, X)", "o(X, Y)", "o(_, X)", "o(_, _)", "!o(X, X)"}, {"o()", "!o()"}, {"o(X)", "o(_)", "!o(Y)"}, {"p()"}, {"oo()"}, {"p(_, 'p')"}, {"o('p', X)", "o('p', _)"},
		{"o(X, 'q')"}, {"o(X, 'pp')"}, {"o(X, '')"}, {"o(X, 1)"}, {"o(X, '1')"}, {"o(X, -1)"}, {"o(X, 0)"}, {"o('p')"}, {"o(X, 'p', Y)"}, {"o(X, Y, 'p')"}, {"o('p', 'p')"}, {"o(1, 'p')"}, {"o('p', 1)"}, {"o(X, Y, Z, V, W)", "o(X, X, X, X, X)"}, {"o(X, Y, Z, V)"},
	} {
		for _, other := range group {
			a, b := impl.AlphaOf(patFrom(t, group[0])), impl.AlphaOf(patFrom(t, other))
			if !impl.SameAlpha(a, b) || !impl.SameAlpha(b, a) {
				t.Errorf("%s and %s", group[0], other)
			}
		}
	}
	var all []impl.Pat
	for _, args := range listsOf(someArgs(), 2) {
		all = append(all, pat("a", args...), notPat("a", args...), pat("b", args...))
	}
	for _, p := range all {
		for _, q := range all {
			if impl.SameAlpha(impl.AlphaOf(p), impl.AlphaOf(q)) != (askText(p) == askText(q)) {
				t.Errorf("%s and %s", impl.PatText(p), impl.PatText(q))
			}
		}
	}
}

func TestPasses(t *testing.T) {
	for text, c := range map[string]struct{ yes, no []string }{
		"o()":                {[]string{"o()"}, []string{"o(1)", "o('')", "p()", "oo()", "o(1,2)"}},
		"o(X)":               {[]string{"o(1)", "o('')", "o('x')", "o(-5)"}, []string{"o()", "o(1,1)", "p(1)"}},
		"o(1)":               {[]string{"o(1)"}, []string{"o('1')", "o(2)", "o(-1)", "o(0)", "o(11)", "o()", "o(1,1)", "p(1)"}},
		"o('1')":             {[]string{"o('1')"}, []string{"o(1)", "o('2')", "o('')", "o('11')", "o()", "o('1','1')", "p('1')"}},
		"o('')":              {[]string{"o('')"}, []string{"o(0)", "o('0')", "o()"}},
		"o(0)":               {[]string{"o(0)"}, []string{"o('')", "o('0')", "o()"}},
		"o(1, Z)":            {[]string{"o(1,2)", "o(1,1)", "o(1,'p')"}, []string{"o(2,1)", "o(1)", "o(1,2,3)", "p(1,2)", "o('1',2)", "o(2,2)"}},
		"o(X, X)":            {[]string{"o(1,1)", "o(1,2)", "o('','')"}, []string{"o(1)", "p(1,1)", "o(1,1,1)"}},
		"o(X, 'p')":          {[]string{"o(1,'p')", "o('p','p')"}, []string{"o('p',1)", "o('p')", "o(1,'pp')", "o(1,'')", "o(1,'p',1)", "p(1,'p')"}},
		"o(1, 'p')":          {[]string{"o(1,'p')"}, []string{"o('p',1)", "o(1,1)", "o('p','p')", "o(1,'p','p')"}},
		"o(1, _, 1, _, 'z')": {[]string{"o(1,0,1,0,'z')", "o(1,1,1,'z','z')"}, []string{"o(0,1,1,0,'z')", "o(1,1,0,1,'z')", "o(1,1,1,1,1)", "o(1,1,1,1)", "o('z',1,1,1,'z')"}},
		"o(1, 2, 3, 4, 5)":   {[]string{"o(1,2,3,4,5)"}, []string{"o(0,2,3,4,5)", "o(1,0,3,4,5)", "o(1,2,0,4,5)", "o(1,2,3,0,5)", "o(1,2,3,4,0)", "o(1,2,3,4)", "o(5,4,3,2,1)", "p(1,2,3,4,5)"}},
	} {
		for _, a := range []impl.Alpha{impl.AlphaOf(patFrom(t, text)), impl.AlphaOf(patFrom(t, "!"+text))} {
			for _, f := range c.yes {
				if !impl.Passes(a, factFrom(f)) {
					t.Errorf("%s does not pass %s", f, text)
				}
			}
			for _, f := range c.no {
				if impl.Passes(a, factFrom(f)) {
					t.Errorf("%s passes %s", f, text)
				}
			}
		}
	}
}

// formOf is what the text of a fact must have, for it to pass.
func formOf(a impl.Alpha) *regexp.Regexp {
	l := slices.Repeat([]string{"[^,]+"}, a.N)
	for i, at := range a.At {
		l[at] = impl.ValText(a.Consts[i])
	}
	return regexp.MustCompile(`^` + a.Kind + `\(` + strings.Join(l, ",") + `\)$`)
}

func TestPassesByForms(t *testing.T) {
	var facts []impl.Fact
	for _, fields := range listsOf([]impl.Val{num(1), txt("1"), txt(""), num(0), num(-1)}, 3) {
		facts = append(facts, fact("a", fields...), fact("b", fields...))
	}
	facts = append(facts, goodFacts()...)
	passed, all := 0, 0
	check := func(a impl.Alpha) {
		form := formOf(a)
		for _, f := range facts {
			want := form.MatchString(impl.FactText(f))
			if impl.Passes(a, f) != want {
				t.Fatalf("%v of %v", f, a)
			}
			all++
			if want {
				passed++
			}
		}
	}
	for _, args := range listsOf(someArgs(), 3) {
		check(impl.AlphaOf(pat("a", args...)))
	}
	for _, p := range goodPats() {
		check(impl.AlphaOf(p))
	}
	if passed < 1000 || all-passed < 1000 {
		t.Error(passed, all)
	}
}

// A place that is none, or that has no Consts, lets nothing pass, wherever it stands among the others.
func TestPassesOfPlacesThatAreNone(t *testing.T) {
	f := fact("a", num(0), num(1), num(2))
	for _, at := range []int{-1, -2, -3, 3, 4, 5, 1 << 32, 1<<32 + 1, math.MinInt, math.MaxInt, math.MinInt + 1} {
		for i := range 4 {
			a := alpha("a", 3)
			for k := range 4 {
				if k == i {
					a.At, a.Consts = append(a.At, at), append(a.Consts, num(0))
				}
				if k < 3 {
					a.At, a.Consts = append(a.At, k), append(a.Consts, num(k))
				}
			}
			if impl.Passes(a, f) {
				t.Errorf("%v", a)
			}
			a.Consts[i] = impl.Val{}
			if impl.Passes(a, f) {
				t.Errorf("%v", a)
			}
		}
	}
	for n := range 6 {
		f := fact("a", slices.Repeat([]impl.Val{num(7)}, n)...)
		for at := -7; at < 13; at++ {
			if got, want := impl.Passes(alpha("a", n, constAt{at, num(7)}), f), at >= 0 && at < n; got != want {
				t.Errorf("%d of %d: %v", at, n, got)
			}
		}
	}
}

func TestPassesOfWhatIsNotRight(t *testing.T) {
	none, one, two, three := impl.Val{}, num(1), num(2), num(3)
	f := fact("a", one, two, three)
	for _, c := range []struct {
		a    impl.Alpha
		f    impl.Fact
		want bool
	}{
		{impl.Alpha{}, impl.Fact{}, true}, {alpha("", 1), fact("", one), true}, {alpha("", 0), f, false}, {alpha("a", 3), impl.Fact{}, false}, {alpha("a", 0), impl.Fact{}, false}, {impl.Alpha{}, fact("a"), false},
		// Fewer or more fields, and numbers of them that may not be.
		{alpha("a", 2), f, false}, {alpha("a", 4), f, false}, {alpha("a", 3), f, true}, {alpha("a", 2, constAt{0, one}), f, false}, {alpha("a", 4, constAt{0, one}), f, false}, {alpha("a", -1), f, false}, {alpha("a", -1), fact("a"), false}, {alpha("a", -3), f, false}, {alpha("a", 3+1<<32), f, false}, {alpha("a", math.MaxInt), f, false}, {alpha("a", math.MinInt), f, false},
		// Another kind.
		{alpha("b", 3), f, false}, {alpha("A", 3), f, false}, {alpha("aa", 3), f, false}, {alpha("", 3), f, false}, {alpha("a\x00", 3), f, false}, {alpha("a", 3), fact("A", one, two, three), false}, {alpha("No name", 3), fact("No name", one, two, three), true},
		// Places without Consts.
		{impl.Alpha{Kind: "a", N: 3, At: []int{0}}, f, false}, {impl.Alpha{Kind: "a", N: 3, At: []int{0}, Consts: []impl.Val{}}, f, false}, {impl.Alpha{Kind: "a", N: 3, At: []int{0, 1}, Consts: []impl.Val{one}}, f, false}, {impl.Alpha{Kind: "a", N: 3, At: []int{0, 1, 2}, Consts: []impl.Val{one, two}}, f, false},
		{impl.Alpha{Kind: "a", N: 1, At: []int{0}}, fact("a", none), false}, {impl.Alpha{Kind: "a", N: 2, At: []int{0, 1}, Consts: []impl.Val{none}}, fact("a", none, none), false},
		// More Consts than places: no place asks them.
		{impl.Alpha{Kind: "a", N: 3, At: []int{0}, Consts: []impl.Val{one, one}}, f, true}, {impl.Alpha{Kind: "a", N: 3, Consts: []impl.Val{three}}, f, true}, {impl.Alpha{Kind: "a", N: 3, At: []int{2}, Consts: []impl.Val{three, one, one, one, none}}, f, true}, {impl.Alpha{Kind: "a", N: 3, At: []int{1}, Consts: []impl.Val{one, two}}, f, false},
		// Places that are not ascending.
		{alpha("a", 3, constAt{2, three}, constAt{0, one}), f, true}, {alpha("a", 3, constAt{2, one}, constAt{0, three}), f, false}, {alpha("a", 3, constAt{1, two}, constAt{1, two}), f, true}, {alpha("a", 3, constAt{1, two}, constAt{1, one}), f, false}, {alpha("a", 3, constAt{1, one}, constAt{1, two}), f, false}, {alpha("a", 1, constAt{0, one}, constAt{0, one}), fact("a", one), true},
		// All parts of what is no value count.
		{alpha("a", 1, constAt{0, none}), fact("a", none), true}, {alpha("a", 1, constAt{0, none}), fact("a", num(0)), false}, {alpha("a", 1, constAt{0, num(0)}), fact("a", none), false}, {alpha("a", 1, constAt{0, impl.Val{K: impl.VInt, N: 1, S: "x"}}), fact("a", one), false}, {alpha("a", 1, constAt{0, impl.Val{K: impl.VText, N: 1, S: "x"}}), fact("a", txt("x")), false}, {alpha("a", 1, constAt{0, impl.Val{K: 7, N: 8, S: "9"}}), fact("a", impl.Val{K: 7, N: 8, S: "9"}), true}, {alpha("a", 1, constAt{0, impl.Val{K: 7, N: 8, S: "9"}}), fact("a", impl.Val{K: 6, N: 8, S: "9"}), false},
		// More fields than a fact may have.
		{alpha("a", 6, constAt{5, one}), fact("a", two, two, two, two, two, one), true}, {alpha("a", 6, constAt{5, one}), fact("a", one, one, one, one, one, two), false}, {alpha("a", 5, constAt{0, one}), fact("a", one, one, one, one, one, one), false},
	} {
		if got := impl.Passes(c.a, c.f); got != c.want {
			t.Errorf("%v of %v: %v", c.f, c.a, got)
		}
	}
}

// What lies behind a fact's fields, an Alpha's places or its Consts is not read.
func TestWhatLiesBehindAnAlphaIsNotRead(t *testing.T) {
	one := num(1)
	fields, consts, at := []impl.Val{one, one, one}, []impl.Val{one, one, one}, []int{0, 1, 2}
	short := impl.Alpha{Kind: "a", N: 3, Consts: consts[:1], At: at}
	if impl.Passes(short, fact("a", fields...)) {
		t.Error("Consts behind the end")
	}
	if a := (impl.Alpha{Kind: "a", N: 1, Consts: consts, At: at}); impl.Passes(a, fact("a", fields[:1]...)) {
		t.Error("fields behind the end")
	}
	at[1] = 77
	if a := (impl.Alpha{Kind: "a", N: 3, Consts: consts, At: at[:1]}); !impl.Passes(a, fact("a", fields...)) || !impl.SameAlpha(a, impl.Alpha{Kind: "a", N: 3, Consts: consts, At: []int{0}}) {
		t.Error("places behind the end")
	}
}

// Promise 12, of patterns and facts right and not, whatever is bound.
func TestWhatMatchesPasses(t *testing.T) {
	matched, stopped := 0, 0
	patsAndFacts(func(p impl.Pat, f impl.Fact, l []impl.Bind) {
		passes := impl.Passes(impl.AlphaOf(p), f)
		if _, ok := impl.MatchPat(p, f, l); ok {
			matched++
			if !passes {
				t.Fatalf("%v does not pass %v", f, p)
			}
		} else if !passes {
			stopped++
		}
	})
	for _, args := range listsOf(someArgs(), 3) {
		for _, fields := range listsOf([]impl.Val{num(1), txt("1"), txt(""), num(0)}, 3) {
			p, f := pat("a", args...), fact("a", fields...)
			for _, l := range [][]impl.Bind{nil, binds(bind("X", num(1))), binds(bind("Y", txt("")), bind("X", num(0)))} {
				passes := impl.Passes(impl.AlphaOf(p), f)
				if _, ok := impl.MatchPat(p, f, l); ok && !passes {
					t.Fatalf("%v does not pass %v", f, p)
				} else if ok {
					matched++
				}
			}
		}
	}
	if matched < 5000 || stopped < 5000 {
		t.Error(matched, stopped)
	}
}

// Where variables have nothing to agree with, what passes matches, too.
func TestWhatPassesMatchesWithoutVariables(t *testing.T) {
	passed := 0
	for _, args := range listsOf([]impl.Arg{aany(), avar(""), aval(num(1)), aval(txt("1"))}, 4) {
		for i, a := range args {
			if a.K == impl.AVar {
				args[i] = avar("X" + strconv.Itoa(i))
			}
		}
		for _, fields := range listsOf([]impl.Val{num(1), txt("1"), num(2)}, 4) {
			p, f := pat("a", args...), fact("a", fields...)
			_, ok := impl.MatchPat(p, f, nil)
			if passes := impl.Passes(impl.AlphaOf(p), f); passes != ok {
				t.Fatalf("%v of %v: %v", f, p, passes)
			} else if passes {
				passed++
			}
		}
	}
	if passed < 1000 {
		t.Error(passed)
	}
}

// netByTexts tells what is asked, in order, as texts, and the places of each rule's patterns among them.
func netByTexts(d impl.Def) (texts []string, chains []impl.Chain) {
	for _, r := range d.Rules {
		var c impl.Chain
		for _, p := range r.Pats {
			text := askText(p)
			if !slices.Contains(texts, text) {
				texts = append(texts, text)
			}
			if at := slices.Index(texts, text); p.Not {
				c.Neg = append(c.Neg, at)
			} else {
				c.Pos = append(c.Pos, at)
			}
		}
		chains = append(chains, c)
	}
	return texts, chains
}

// checkNet tells how many Alphas there are.
func checkNet(t *testing.T, d impl.Def) int {
	t.Helper()
	n := impl.NetOf(d)
	texts, chains := netByTexts(d)
	if len(n.Alphas) != len(texts) {
		t.Fatalf("%q: %v, not %q", impl.DefText(d), n, texts)
	}
	for i, a := range n.Alphas {
		checkAlpha(t, a, texts[i])
		for _, b := range n.Alphas[:i] {
			if impl.SameAlpha(a, b) {
				t.Fatalf("%q: %v twice", impl.DefText(d), a)
			}
		}
	}
	if !alikeNets(impl.Net{Chains: n.Chains}, impl.Net{Chains: chains}) || !impl.NetOk(n, d) {
		t.Fatalf("%q: %v, not %v", impl.DefText(d), n.Chains, chains)
	}
	return len(n.Alphas)
}

// defFrom has rules of what their texts have ahead of the acts.
func defFrom(t *testing.T, texts ...string) impl.Def {
	t.Helper()
	var rules []impl.Rule
	for _, text := range texts {
		rules = append(rules, ruleFrom(t, text))
	}
	return def("d", namedInRow(rules...)...)
}

func TestNetOf(t *testing.T) {
	zero := []int{0}
	for _, c := range []struct {
		rules  []string
		alphas []string
		chains []impl.Chain
	}{
		{[]string{"a()"}, []string{"a()"}, []impl.Chain{chain(zero)}},
		{[]string{"a(X, 'p')"}, []string{"a(_, 'p')"}, []impl.Chain{chain(zero)}},
		{[]string{"o(X, 'p'), o(Y, 'p'), !o(X, 'q')", "o(1, Z), o(W, 'p')"}, []string{"o(_, 'p')", "o(_, 'q')", "o(1, _)"}, []impl.Chain{chain([]int{0, 0}, 1), chain([]int{2, 0})}},
		// The same in several patterns of one rule.
		{[]string{"a(X), a(Y), a(Z)"}, []string{"a(_)"}, []impl.Chain{chain([]int{0, 0, 0})}},
		{[]string{"a(X), b(X), a(Y)"}, []string{"a(_)", "b(_)"}, []impl.Chain{chain([]int{0, 1, 0})}},
		{[]string{"a(X), !a(_), !a(X), !a(Y), !b(), !a(X)"}, []string{"a(_)", "b()"}, []impl.Chain{chain(zero, 0, 0, 0, 1, 0)}},
		{[]string{"a(X, X), a(X, Y), !a(Y, X)"}, []string{"a(_, _)"}, []impl.Chain{chain([]int{0, 0}, 0)}},
		// The same in several rules.
		{[]string{"a(X)", "a(Y)", "a(_)"}, []string{"a(_)"}, []impl.Chain{chain(zero), chain(zero), chain(zero)}},
		{[]string{"a(X), b(X)", "b(X), a(X)"}, []string{"a(_)", "b(_)"}, []impl.Chain{chain([]int{0, 1}), chain([]int{1, 0})}},
		{[]string{"a(1), b(1)", "c(1), b(1)", "d(1), c(1), a(1)"}, []string{"a(1)", "b(1)", "c(1)", "d(1)"}, []impl.Chain{chain([]int{0, 1}), chain([]int{2, 1}), chain([]int{3, 2, 0})}},
		// What is Not in one and not in another.
		{[]string{"a(X), !b(X)", "b(X), !a(X)"}, []string{"a(_)", "b(_)"}, []impl.Chain{chain(zero, 1), chain([]int{1}, 0)}},
		{[]string{"a(X), !b(X), !c(X)", "c(Y), b(Y)"}, []string{"a(_)", "b(_)", "c(_)"}, []impl.Chain{chain(zero, 1, 2), chain([]int{2, 1})}},
		{[]string{"a(X), !z(X)", "b(X), !z(1)", "a(X), b(X), !z(1), !z(X)"}, []string{"a(_)", "z(_)", "b(_)", "z(1)"}, []impl.Chain{chain(zero, 1), chain([]int{2}, 3), chain([]int{0, 2}, 3, 1)}},
		// The kind, how many, a value, its kind, its place.
		{[]string{"a(), b(), a(X)"}, []string{"a()", "b()", "a(_)"}, []impl.Chain{chain([]int{0, 1, 2})}},
		{[]string{"a(1), a('1'), a(2), !a(''), !a(0), !a('0')"}, []string{"a(1)", "a('1')", "a(2)", "a('')", "a(0)", "a('0')"}, []impl.Chain{chain([]int{0, 1, 2}, 3, 4, 5)}},
		{[]string{"a(1, X), a(X, 1), a(1, 1)", "a(1, 2), a(2, 1), a(X, Y)"}, []string{"a(1, _)", "a(_, 1)", "a(1, 1)", "a(1, 2)", "a(2, 1)", "a(_, _)"}, []impl.Chain{chain([]int{0, 1, 2}), chain([]int{3, 4, 5})}},
		{[]string{"a(X, 1, _, _, _), a(X, _, 1, _, _), a(X, _, _, 1, _), !a(1, _, _, _, _), !a(_, _, _, _, 1)"}, []string{"a(_, 1, _, _, _)", "a(_, _, 1, _, _)", "a(_, _, _, 1, _)", "a(1, _, _, _, _)", "a(_, _, _, _, 1)"}, []impl.Chain{chain([]int{0, 1, 2}, 3, 4)}},
		{[]string{"a(), a(_), a(_, _)", "a(_, _, _), a(_, _, _, _), a(_, _, _, _, _)"}, []string{"a()", "a(_)", "a(_, _)", "a(_, _, _)", "a(_, _, _, _)", "a(_, _, _, _, _)"}, []impl.Chain{chain([]int{0, 1, 2}), chain([]int{3, 4, 5})}},
	} {
		d := defFrom(t, c.rules...)
		checkNet(t, d)
		n := impl.NetOf(d)
		var texts []string
		for _, a := range n.Alphas {
			texts = append(texts, alphaText(a))
		}
		if !slices.Equal(texts, c.alphas) || !alikeNets(impl.Net{Chains: n.Chains}, impl.Net{Chains: c.chains}) {
			t.Errorf("%q: %v", c.rules, n)
		}
	}
}

// rolledDef has up to 12 rules that ask much the same.
func rolledDef(roll *rand.Rand) impl.Def {
	var rules []impl.Rule
	for range 1 + roll.IntN(12) {
		rules = append(rules, rolledRule(roll))
	}
	return def("d", namedInRow(rules...)...)
}

func TestNetsOfManyDefs(t *testing.T) {
	for _, d := range goodDefs() {
		checkNet(t, d)
	}
	roll := rand.New(rand.NewPCG(12, 1))
	alphas := 0
	for range 1500 {
		alphas += checkNet(t, rolledDef(roll))
	}
	if alphas < 10000 {
		t.Error(alphas)
	}
	smallRules(func(r impl.Rule) { checkNet(t, def("d", r, named("other", xyRule()))) })
}

func xyRule() impl.Rule { return rule(xyPats(), nil, dropAct(0)) }

// wideRules are 12 rules of 6 patterns each, which ask what they are told to.
func wideRules(patOf func(i int) impl.Pat) []impl.Rule {
	var rules []impl.Rule
	for i := range 12 {
		var l []impl.Pat
		for k := range 6 {
			p := patOf(6*i + k)
			p.Not = k >= 3
			l = append(l, p)
		}
		rules = append(rules, ruleOf(l...))
	}
	return namedInRow(rules...)
}

func TestNetsOfAsManyAsMayBe(t *testing.T) {
	for why, c := range map[string]struct {
		patOf func(i int) impl.Pat
		want  int
	}{
		"all kinds":   {func(i int) impl.Pat { return pat("k"+strconv.Itoa(i), avar("X")) }, 72},
		"all numbers": {func(i int) impl.Pat { return pat("k", aval(num(i)), avar("X")) }, 72},
		"all texts":   {func(i int) impl.Pat { return pat("k", avar("X"), aval(txt(strconv.Itoa(i)))) }, 72},
		"both kinds of value": {func(i int) impl.Pat {
			return pat("k", []impl.Arg{aval(num(i / 2)), aval(txt(strconv.Itoa(i / 2)))}[i%2])
		}, 72},
		"places": {func(i int) impl.Pat {
			return pat("k", append(slices.Repeat([]impl.Arg{aany()}, i%5), append([]impl.Arg{aval(num(1))}, slices.Repeat([]impl.Arg{aany()}, 4-i%5)...)...)...)
		}, 5},
		"lengths":     {func(i int) impl.Pat { return pat("k", slices.Repeat([]impl.Arg{avar("X")}, i%6)...) }, 6},
		"one":         {func(i int) impl.Pat { return pat("k", avar("X"+strconv.Itoa(i)), aval(num(1))) }, 1},
		"one of none": {func(i int) impl.Pat { return pat("k") }, 1},
		"every other": {func(i int) impl.Pat { return pat("k", aval(num(i%36))) }, 36},
	} {
		d := def("d", wideRules(c.patOf)...)
		if got := checkNet(t, d); got != c.want {
			t.Errorf("%s: %d", why, got)
		}
		for n := 1; n < 12; n++ {
			checkNet(t, def("d", d.Rules[:n]...))
		}
	}
}

func TestNetsOfWrongDefs(t *testing.T) {
	check := func(why string, d impl.Def, others ...impl.Net) {
		t.Helper()
		n := impl.NetOf(d)
		if !isZeroNet(n) {
			t.Errorf("%s: %v", why, n)
		}
		for _, n := range append(others, n, impl.Net{Alphas: []impl.Alpha{}, Chains: []impl.Chain{}}, impl.Net{Chains: make([]impl.Chain, len(d.Rules))}) {
			if impl.NetOk(n, d) {
				t.Errorf("%s: %v", why, n)
			}
		}
	}
	for why, d := range wrongDefs() {
		check(why, d, impl.NetOf(def("d", shortRules(2)...)), impl.NetOf(def("d", shortRules(12)...)))
	}
	right := defFrom(t, "a(X), !b(X)", "b(X)")
	n := impl.NetOf(right)
	check("no name", def("", right.Rules...), n)
	check("no rules", def("d"), n)
	check("one Name", def("d", right.Rules[0], named("r0", right.Rules[1])), n)
	check("too urgent", def("d", urgent(101, right.Rules[0]), right.Rules[1]), n)
	check("more rules", def("d", append(shortRules(12), named("more", ruleOf(pat("a"))))...), impl.NetOf(def("d", shortRules(12)...)))
	for why, r := range wrongRules() {
		check(why, def("d", r), n)
		check(why+" behind", def("d", right.Rules[0], right.Rules[1], r), n)
		check(why+" ahead", def("d", r, right.Rules[0], right.Rules[1]), n)
	}
}

// What is no pattern's does not matter, and neither do the names of variables.
func TestNetsHangOnThePatternsAlone(t *testing.T) {
	d := defFrom(t, "a(X), b(X, Y), !c(Y, 1)", "a(1), !b(X, 1)")
	n := impl.NetOf(d)
	check := func(why string, change func(d *impl.Def)) {
		t.Helper()
		other := cloneDef(d)
		change(&other)
		if !alikeNets(impl.NetOf(other), n) || !impl.NetOk(n, other) {
			t.Errorf("%s: %v, not %v", why, impl.NetOf(other), n)
		}
	}
	check("a name", func(d *impl.Def) { d.Name = twelve })
	check("names of rules", func(d *impl.Def) { d.Rules[0].Name, d.Rules[1].Name = "zz", "aa" })
	check("urgency", func(d *impl.Def) { d.Rules[1].Sal = 100 })
	check("conditions", func(d *impl.Def) { d.Rules[0].Conds = conds(cond(impl.CLess, avar("X"), aval(num(1)))) })
	check("acts", func(d *impl.Def) { d.Rules[0].Acts = acts(dropAct(1), assertAct("z", plain(avar("X")))) })
	check("variables", func(d *impl.Def) {
		d.Rules[0].Pats = ruleFrom(t, "a(V), b(V, V), !c(W, 1)").Pats
	})
	check("anything", func(d *impl.Def) {
		d.Rules[0].Pats = ruleFrom(t, "a(_), b(_, Q), !c(_, 1)").Pats
	})
}

// What matches a rule's pattern passes the Alpha at the place that its Chain has for it.
func TestWhatMatchesAtAPlacePassesThere(t *testing.T) {
	roll := rand.New(rand.NewPCG(12, 2))
	matched := 0
	for range 400 {
		d, s := rolledDef(roll), rolledStore(roll, 12)
		n := impl.NetOf(d)
		for i, r := range d.Rules {
			places := append(slices.Clone(n.Chains[i].Pos), n.Chains[i].Neg...)
			for k, p := range r.Pats {
				for _, x := range s.Items {
					_, ok := impl.MatchPat(p, x.F, nil)
					if ok {
						matched++
					}
					if ok && !impl.Passes(n.Alphas[places[k]], x.F) {
						t.Fatalf("%v of %q", x, impl.PatText(p))
					}
				}
			}
		}
	}
	if matched < 3000 {
		t.Error(matched)
	}
}

func someDefs(t *testing.T) []impl.Def {
	t.Helper()
	return []impl.Def{
		defFrom(t, "a()"), defFrom(t, "a(X), !b(X)"), defFrom(t, "a(1)", "a('1')"), defFrom(t, "a(X), b(X), !c(X), !d(1, X)", "b(Y), a(Y), !c(Y)", "d(1, _), !a(X), !b(X)"),
		defFrom(t, "o(X, 'p'), o(Y, 'p'), !o(X, 'q')", "o(1, Z), o(W, 'p')"), richDef(), def("d", wideRules(func(i int) impl.Pat { return pat("k", aval(num(i%30)), avar("X")) })...),
	}
}

func TestNetOkOfEachPartBent(t *testing.T) {
	for _, d := range someDefs(t) {
		n := impl.NetOf(d)
		count := 0
		eachBendOf(n, cloneNet, func(where string, bent impl.Net) {
			count++
			if impl.NetOk(bent, d) {
				t.Errorf("%q: bent%s", impl.DefText(d), where)
			}
		})
		if count < 10 || !impl.NetOk(n, d) || !impl.NetOk(cloneNet(n), d) {
			t.Errorf("%q: %d bends", impl.DefText(d), count)
		}
	}
}

// swapped is l with what stands at i and k in each other's place.
func swapped[T any](l []T, i int, k int) []T {
	l = slices.Clone(l)
	l[i], l[k] = l[k], l[i]
	return l
}

func TestNetOkOfAlphasElsewhere(t *testing.T) {
	for _, d := range someDefs(t) {
		n := impl.NetOf(d)
		check := func(why string, alphas []impl.Alpha, chains []impl.Chain) {
			t.Helper()
			if other := (impl.Net{Alphas: alphas, Chains: chains}); impl.NetOk(other, d) {
				t.Errorf("%q: %s: %v", impl.DefText(d), why, other)
			}
		}
		for i := range n.Alphas {
			check("left out", slices.Delete(slices.Clone(n.Alphas), i, i+1), n.Chains)
			check("twice", slices.Insert(slices.Clone(n.Alphas), i, n.Alphas[i]), n.Chains)
			check("twice at the end", append(slices.Clone(n.Alphas), n.Alphas[i]), n.Chains)
			for k := range i {
				check("elsewhere", swapped(n.Alphas, i, k), n.Chains)
				check("instead", slices.Replace(slices.Clone(n.Alphas), i, i+1, n.Alphas[k]), n.Chains)
			}
		}
		check("one that nobody asks", append(slices.Clone(n.Alphas), alpha("nobody", 1)), n.Chains)
		check("no Alphas", nil, n.Chains)
		for i := range n.Chains {
			check("a chain left out", n.Alphas, slices.Delete(slices.Clone(n.Chains), i, i+1))
			check("a chain twice", n.Alphas, slices.Insert(slices.Clone(n.Chains), i, n.Chains[i]))
			for k := range i {
				if !alikeNets(impl.Net{Chains: n.Chains[i : i+1]}, impl.Net{Chains: n.Chains[k : k+1]}) {
					check("chains out of order", n.Alphas, swapped(n.Chains, i, k))
				}
			}
		}
		check("no chains", n.Alphas, nil)
		check("a chain of nothing behind", n.Alphas, append(slices.Clone(n.Chains), impl.Chain{}))
		check("nothing", nil, nil)
	}
}

func TestNetOkOfPlacesElsewhere(t *testing.T) {
	for _, d := range someDefs(t) {
		n := impl.NetOf(d)
		for i, c := range n.Chains {
			check := func(why string, pos []int, neg []int) {
				t.Helper()
				other := cloneNet(n)
				other.Chains[i] = chain(pos, neg...)
				if impl.NetOk(other, d) {
					t.Errorf("%q: %s: %v", impl.DefText(d), why, other.Chains)
				}
			}
			last := len(c.Pos) - 1
			check("a Pos as Neg", c.Pos[:last], append([]int{c.Pos[last]}, c.Neg...))
			check("a Pos as Neg behind", c.Pos[:last], append(slices.Clone(c.Neg), c.Pos[last]))
			check("all as Pos", append(slices.Clone(c.Pos), append(c.Neg, 0)...), nil)
			check("all as Neg", nil, append(slices.Clone(c.Pos), c.Neg...))
			check("none", nil, nil)
			if len(c.Neg) > 0 {
				check("a Neg as Pos", append(slices.Clone(c.Pos), c.Neg[0]), c.Neg[1:])
				check("Pos and Neg in each other's place", c.Neg, c.Pos)
				check("no Neg", c.Pos, nil)
			}
			for _, at := range []int{-1, len(n.Alphas), math.MaxInt, math.MinInt, c.Pos[0] + 1<<32} {
				check("a place that is none", append([]int{at}, c.Pos[1:]...), c.Neg)
				check("a Pos behind", append(slices.Clone(c.Pos), at), c.Neg)
				check("a Neg behind", c.Pos, append(slices.Clone(c.Neg), at))
			}
			for a := range c.Pos {
				for b := range a {
					if c.Pos[a] != c.Pos[b] {
						check("Pos out of order", swapped(c.Pos, a, b), c.Neg)
					}
				}
			}
			for a := range c.Neg {
				for b := range a {
					if c.Neg[a] != c.Neg[b] {
						check("Neg out of order", c.Pos, swapped(c.Neg, a, b))
					}
				}
			}
		}
	}
}

// A net is right for each definition that asks the same, and for no other one.
func TestNetOkOfOtherDefs(t *testing.T) {
	all := someDefs(t)
	for _, d := range someDefs(t) {
		eachBend(d, func(_ string, bent impl.Def) {
			if len(all) < 600 {
				all = append(all, bent)
			}
		})
	}
	same, other, wrong := 0, 0, 0
	for i, d := range all {
		n := impl.NetOf(d)
		for _, e := range all[max(0, i-60):min(len(all), i+60)] {
			got, want := impl.NetOk(n, e), impl.DefOk(e) && alikeNets(n, impl.NetOf(e))
			if got != want {
				t.Fatalf("the net of %v, of %v: %v", d, e, got)
			}
			switch {
			case want:
				same++
			case impl.DefOk(e):
				other++
			default:
				wrong++
			}
		}
	}
	if same < 500 || other < 5000 || wrong < 5000 {
		t.Error(same, other, wrong)
	}
}

func TestNetOkOfEmptyLists(t *testing.T) {
	d := defFrom(t, "a(X)", "b(X)")
	n := impl.NetOf(d)
	for i := range n.Alphas {
		n.Alphas[i].Consts, n.Alphas[i].At = []impl.Val{}, []int{}
		n.Chains[i].Neg = []int{}
	}
	if !impl.NetOk(n, d) {
		t.Error("an empty list is nil")
	}
	n.Alphas[0].Consts = nil
	n.Chains[1].Neg = nil
	if !impl.NetOk(n, d) {
		t.Error("nil is an empty list")
	}
}

// guardedAlpha is a with spare room behind its lists, and tells whether nobody wrote to it.
func guardedAlpha(a impl.Alpha) (impl.Alpha, func() bool) {
	consts, cleanConsts := guardedList(a.Consts, txt("spare"))
	at, cleanAt := guardedList(a.At, 77)
	a.Consts, a.At = consts, at
	return a, func() bool { return cleanConsts() && cleanAt() }
}

// guardedNet is n with spare room behind each of its lists, and tells whether nobody wrote to any.
func guardedNet(n impl.Net) (impl.Net, func() bool) {
	var clean []func() bool
	var out impl.Net
	for _, a := range n.Alphas {
		given, unwritten := guardedAlpha(a)
		out.Alphas, clean = append(out.Alphas, given), append(clean, unwritten)
	}
	for _, c := range n.Chains {
		pos, cleanPos := guardedList(c.Pos, 77)
		neg, cleanNeg := guardedList(c.Neg, 78)
		out.Chains, clean = append(out.Chains, chain(pos, neg...)), append(clean, cleanPos, cleanNeg)
	}
	alphas := append(out.Alphas, slices.Repeat([]impl.Alpha{alpha("spare", 1)}, 4)...)
	chains := append(out.Chains, slices.Repeat([]impl.Chain{chain([]int{7}, 7)}, 4)...)
	was := fmt.Sprint(alphas, chains)
	out.Alphas, out.Chains = alphas[:len(n.Alphas)], chains[:len(n.Chains)]
	return out, func() bool {
		return fmt.Sprint(alphas, chains) == was && !slices.ContainsFunc(clean, func(unwritten func() bool) bool { return !unwritten() })
	}
}

// What lies behind a list is not read either, so what is told is the same with it.
func TestNetsWriteIntoNoArgument(t *testing.T) {
	defs := append(append(someDefs(t), goodDefs()...), inOrder(wrongDefs())...)
	for _, d := range defs {
		if len(d.Rules) > 100 {
			continue
		}
		given, cleanDef := guardedDef(d)
		n, cleanNet := guardedNet(impl.NetOf(d))
		if got := impl.NetOf(given); !alikeNets(got, impl.NetOf(d)) || impl.NetOk(n, given) != impl.DefOk(d) {
			t.Errorf("%v: %v", d, got)
		}
		if !cleanDef() || !cleanNet() {
			t.Errorf("%v is written to", d)
		}
	}
	for _, p := range append(goodPats(), inOrder(wrongPats())...) {
		given, cleanPat := guardedPat(p)
		a, cleanAlpha := guardedAlpha(impl.AlphaOf(given))
		f, cleanFact := guardedFact(fact(p.Kind, slices.Repeat([]impl.Val{num(1)}, len(p.Args))...))
		if b := impl.AlphaOf(p); !alikeAlphas(a, b) || !impl.SameAlpha(a, b) || impl.Passes(a, f) != impl.Passes(b, f) {
			t.Errorf("%v: %v", p, a)
		}
		if !cleanPat() || !cleanAlpha() || !cleanFact() {
			t.Errorf("%v is written to", p)
		}
	}
}

// They share none with the definition either.
func TestListsOfNetsShareNoMemory(t *testing.T) {
	for _, d := range append(someDefs(t), goodDefs()...) {
		d := cloneDef(d)
		var alphas []impl.Alpha
		for _, r := range d.Rules {
			for _, p := range r.Pats {
				alphas = append(alphas, impl.AlphaOf(p), impl.AlphaOf(p))
			}
		}
		checkOwnLists(t, impl.DefText(d), 4+2*len(d.Rules), d, impl.NetOf(d), impl.NetOf(d), alphas)
	}
}

// What is written into an answer stands in no other one.
func TestNetsStandAlone(t *testing.T) {
	for _, d := range someDefs(t) {
		was, text := cloneNet(impl.NetOf(d)), impl.DefText(d)
		n := impl.NetOf(d)
		for i := range n.Alphas {
			for k := range n.Alphas[i].At {
				n.Alphas[i].At[k], n.Alphas[i].Consts[k] = 77, txt("other")
			}
			n.Alphas[i].Kind, n.Alphas[i].N = "other", 77
		}
		for _, c := range n.Chains {
			for k := range c.Pos {
				c.Pos[k] = 77
			}
			for k := range c.Neg {
				c.Neg[k] = 77
			}
		}
		if impl.NetOk(n, d) || !impl.NetOk(was, d) || !alikeNets(impl.NetOf(d), was) || impl.DefText(d) != text {
			t.Errorf("%q: %v", text, impl.NetOf(d))
		}
	}
}

// Texts have no memory in common with an argument either.
func TestNetsShareNoTexts(t *testing.T) {
	var turns []func()
	over := func(s string) string {
		text, turn := textOver(s)
		turns = append(turns, turn)
		return text
	}
	p := pat(over("kind"), avar(over("Xyz")), aval(txt(over("word"))))
	a, n := impl.AlphaOf(p), impl.NetOf(def(over("name"), named(over("rule"), ruleOf(p, notPat(over("other"), aval(txt(over("text"))))))))
	for _, turn := range turns {
		turn()
	}
	if text := alphaText(a); text != "kind(_, 'word')" {
		t.Error(text)
	}
	if len(n.Alphas) != 2 || alphaText(n.Alphas[0]) != "kind(_, 'word')" || alphaText(n.Alphas[1]) != "other('text')" {
		t.Error(n)
	}
}
