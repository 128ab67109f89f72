package tests

import (
	"math"
	"slices"
	"strings"
	"testing"

	"loop.example/g00282/impl"
)

const twelve = "a_0123456789"

func fact(kind string, fields ...impl.Val) impl.Fact { return impl.Fact{Kind: kind, Fields: fields} }

func isZeroFact(f impl.Fact) bool { return f.Kind == "" && len(f.Fields) == 0 }

// alike is told apart from SameFact, so that the tests of the others don't hang on it.
func alike(a impl.Fact, b impl.Fact) bool {
	return a.Kind == b.Kind && slices.Equal(a.Fields, b.Fields)
}

// goodFacts are facts that may be, in their order.
func goodFacts() []impl.Fact {
	most, least := num(impl.MaxInt), num(-impl.MaxInt)
	return []impl.Fact{
		fact("a"),
		fact("a", least), fact("a", num(-1)), fact("a", num(0)), fact("a", num(9)), fact("a", num(10)), fact("a", most),
		fact("a", txt("")), fact("a", txt("10")), fact("a", txt("9")), fact("a", txt(twenty)), fact("a", txt("x")),
		fact("a", least, least), fact("a", num(1), num(2)), fact("a", num(1), num(3)), fact("a", num(1), txt("")), fact("a", num(2), num(1)), fact("a", txt("b"), num(0)),
		fact("a", num(0), num(0), num(0), num(0), num(-1)), fact("a", num(0), num(0), num(0), num(0), num(0)), fact("a", num(0), num(0), num(0), num(0), txt("")), fact("a", num(0), num(0), num(0), num(1), num(0)), fact("a", num(0), num(0), num(1), num(0), num(0)), fact("a", num(0), num(1), num(0), num(0), num(0)), fact("a", num(1), num(0), num(0), num(0), num(0)),
		fact("a", txt(twenty), txt(twenty), txt(twenty), txt(twenty), txt(twenty)),
		fact("a0"), fact("a0", num(1)), fact("a_"), fact(twelve), fact(twelve, most, least), fact("aa", num(-5)), fact("b"), fact("b", num(0)), fact("order", num(1), txt("a"), num(-2)), fact("z"), fact(strings.Repeat("z", 12), num(1), num(2), num(3), num(4), num(5)),
	}
}

// wrongFacts are what is no fact, each with its reason.
func wrongFacts() map[string]impl.Fact {
	one := num(1)
	wrong := map[string]impl.Fact{
		"nothing":                       {},
		"no kind, a field":              fact("", one),
		"a kind of 13 bytes":            fact(twelve + "a"),
		"a kind of many bytes":          fact(strings.Repeat("a", 5000), one),
		"a large letter":                fact("Ab", one),
		"a large letter within":         fact("aB"),
		"a digit first":                 fact("1a", one),
		"a _ first":                     fact("_a"),
		"a blank":                       fact("a b", one),
		"a bracket":                     fact("a("),
		"a sign":                        fact("a-b"),
		"a byte 0":                      fact("a\x00"),
		"a byte 255":                    fact("\xff", one),
		"a letter of two bytes":         fact("\u00e4"),
		"6 fields":                      fact("a", one, one, one, one, one, one),
		"6 fields of a kind of 12":      fact(twelve, one, one, one, one, one, txt("")),
		"many fields":                   fact("a", slices.Repeat([]impl.Val{one}, 1000)...),
		"6 fields, and no kind":         fact("", one, one, one, one, one, one),
		"a zero value as field":         fact("a", impl.Val{}),
		"a zero value behind 4 fields":  fact("a", one, one, one, one, impl.Val{}),
		"a zero value ahead of a field": fact("a", impl.Val{}, one),
	}
	for why, v := range wrongVals() {
		wrong["a field: "+why] = fact("a", v)
		wrong["the second field: "+why] = fact("a", one, v, one)
		wrong["the fifth field: "+why] = fact("a", one, one, one, one, v)
	}
	return wrong
}

// wideFacts are facts, right or not, in the order that the chapter tells for all of them.
func wideFacts() []impl.Fact {
	no, one := impl.Val{}, num(1)
	six := []impl.Val{one, one, one, one, one, one}
	return []impl.Fact{
		fact(""), fact("", no), fact("", one), fact("", no, no), fact("", num(math.MinInt), no), fact("\x00"), fact("A", one, one), fact("_"),
		fact("a"), fact("a", impl.Val{K: -1}), fact("a", no), fact("a", impl.Val{S: "a"}), fact("a", impl.Val{N: 1}), fact("a", num(math.MinInt)), fact("a", one), fact("a", impl.Val{K: impl.VInt, N: 1, S: "x"}), fact("a", num(math.MaxInt)), fact("a", impl.Val{K: impl.VText, N: -1, S: "z"}), fact("a", txt("A")), fact("a", txt("a")), fact("a", impl.Val{K: impl.VText, N: 1}), fact("a", impl.Val{K: 3}),
		fact("a", no, no), fact("a", one, no), fact("a", one, one), fact("a", no, no, no, no, no), fact("a", six[:5]...),
		fact("a", no, no, no, no, no, no), fact("a", one, one, one, one, one, num(0)), fact("a", six...), fact("a", one, one, one, one, one, num(2)), fact("a", one, one, one, one, num(2), one), fact("a", num(2), one, one, one, one, no),
		fact("a", slices.Repeat(six, 3)...), fact("a", append(slices.Repeat(six, 2), one, one, one, one, one, txt(""))...),
		fact("a\x00"), fact("ab"), fact("a\xff", one), fact(strings.Repeat("b", 500)), fact("\xff"),
	}
}

func TestFactOk(t *testing.T) {
	checkOks(t, impl.FactOk, goodFacts(), wrongFacts())
	for _, v := range goodVals() {
		if !impl.FactOk(fact("a", v)) || !impl.FactOk(fact("a", num(1), num(1), num(1), num(1), v)) {
			t.Errorf("%v may be a field", v)
		}
	}
}

func TestFactsOfNoughtToSevenFields(t *testing.T) {
	for n := range 8 {
		f := fact("k", slices.Repeat([]impl.Val{num(7)}, n)...)
		if impl.FactOk(f) != (n <= 5) {
			t.Errorf("%d fields: %v", n, impl.FactOk(f))
		}
		want := ""
		if n <= 5 {
			want = "k(" + strings.Join(slices.Repeat([]string{"7"}, n), ",") + ")"
		}
		if s := impl.FactText(f); s != want {
			t.Errorf("%d fields: %q", n, s)
		}
		got, next, ok := impl.GetFact(impl.PutFact(nil, f), 0)
		if ok != (n <= 5) || ok && (!alike(got, f) || next != 3+2*n) || !ok && (!isZeroFact(got) || next != 0) {
			t.Errorf("%d fields: %v %d %v", n, got, next, ok)
		}
	}
}

func TestFactKindsAreNames(t *testing.T) {
	for c := range 256 {
		s := string([]byte{byte(c)})
		for _, kind := range []string{s, "a" + s, "a" + s + "b", "abcdefghijk" + s, "abcdefghijkl" + s} {
			if impl.FactOk(fact(kind)) != impl.NameOk(kind) {
				t.Errorf("%q", kind)
			}
		}
	}
}

func TestWhatLiesBehindTheFieldsIsNotRead(t *testing.T) {
	all := []impl.Val{num(1), num(2), {}, num(3), num(4), num(5), num(6)}
	f := impl.Fact{Kind: "a", Fields: all[:2]}
	if !impl.FactOk(f) || impl.FactText(f) != "a(1,2)" || string(impl.PutFact(nil, f)) != "\x02a\x04\x02\x02\x02\x04" {
		t.Error(f)
	}
	if g := fact("a", num(1), num(2)); !impl.SameFact(f, g) || !impl.SameFact(g, f) || impl.LessFact(f, g) || impl.LessFact(g, f) {
		t.Error("the same, but for what lies behind")
	}
}

func TestNoFieldsAndNilAreTheSame(t *testing.T) {
	some := []impl.Val{num(1)}
	lists := [][]impl.Val{nil, {}, some[:0], make([]impl.Val, 0, 9)}
	for _, x := range lists {
		f := impl.Fact{Kind: "k", Fields: x}
		if !impl.FactOk(f) || impl.FactText(f) != "k()" || string(impl.PutFact(nil, f)) != "\x02k\x00" {
			t.Errorf("%v: %q", f, impl.FactText(f))
		}
		for _, y := range lists {
			g := impl.Fact{Kind: "k", Fields: y}
			if !impl.SameFact(f, g) || impl.LessFact(f, g) {
				t.Errorf("%#v, %#v", f, g)
			}
		}
		if g := fact("k", impl.Val{}); impl.SameFact(f, g) || impl.SameFact(g, f) || !impl.LessFact(f, g) || impl.LessFact(g, f) {
			t.Error("none is not a zero value")
		}
	}
	if f, ok := impl.ParseFact("k()"); !ok || f.Kind != "k" || len(f.Fields) != 0 {
		t.Error(f, ok)
	}
	if f, next, ok := impl.GetFact([]byte("\x02k\x00"), 0); !ok || f.Kind != "k" || len(f.Fields) != 0 || next != 3 {
		t.Error(f, next, ok)
	}
}

// Of any two one is less, or they are the same.
func TestSameAndLess(t *testing.T) {
	for _, row := range [][]impl.Fact{goodFacts(), wideFacts()} {
		for i, a := range row {
			for k, b := range row {
				b = impl.Fact{Kind: strings.Clone(b.Kind), Fields: slices.Clone(b.Fields)}
				if impl.LessFact(a, b) != (i < k) {
					t.Errorf("less, %v, %v: %v", a, b, i >= k)
				}
				if impl.SameFact(a, b) != (i == k) {
					t.Errorf("same, %v, %v: %v", a, b, i != k)
				}
			}
		}
	}
}

func TestLessOfThreeFacts(t *testing.T) {
	rows := append(goodFacts(), wideFacts()...)
	for _, a := range rows {
		for _, b := range rows {
			for _, c := range rows {
				if impl.LessFact(a, b) && impl.LessFact(b, c) && !impl.LessFact(a, c) {
					t.Fatalf("%v, %v, %v", a, b, c)
				}
			}
		}
	}
}

// One field alone parts two facts, wherever it stands, even where no fact may have one.
func TestFactsThatPartInOneField(t *testing.T) {
	for size := range 13 {
		for at := range size {
			a, b := fact("k", slices.Repeat([]impl.Val{num(4)}, size)...), fact("k", slices.Repeat([]impl.Val{num(4)}, size)...)
			if !impl.SameFact(a, b) || impl.LessFact(a, b) {
				t.Errorf("%d fields", size)
			}
			for _, v := range []impl.Val{num(5), txt("4"), {K: impl.VInt, N: 4, S: "a"}, {K: 9, N: 4}} {
				b.Fields[at] = v
				if impl.SameFact(a, b) || impl.SameFact(b, a) || !impl.LessFact(a, b) || impl.LessFact(b, a) {
					t.Errorf("field %d of %d: %v", at, size, v)
				}
			}
		}
	}
}

// The first field that is unlike tells, whatever the later ones say.
func TestTheFirstUnlikeFieldTells(t *testing.T) {
	for at := range 4 {
		a, b := fact("k", slices.Repeat([]impl.Val{num(9)}, 5)...), fact("k", slices.Repeat([]impl.Val{num(9)}, 5)...)
		a.Fields[at], b.Fields[at] = num(1), num(2)
		a.Fields[at+1], b.Fields[at+1] = num(8), num(7)
		if !impl.LessFact(a, b) || impl.LessFact(b, a) {
			t.Error(a, b)
		}
	}
}

func TestFactBytes(t *testing.T) {
	one := num(1)
	for _, x := range []struct {
		f    impl.Fact
		want string
	}{
		{fact("stop"), "\x08stop\x00"},
		{fact("a", num(3)), "\x02a\x02\x02\x06"},
		{fact("a", txt("")), "\x02a\x02\x04\x00"},
		{fact("order", num(1), txt("a"), num(-2)), "\x0aorder\x06\x02\x02\x04\x02a\x02\x03"},
		{fact(twelve, one, one, one, one, txt(twenty)), "\x18" + twelve + "\x0a\x02\x02\x02\x02\x02\x02\x02\x02\x04\x28" + twenty},
		{impl.Fact{}, "\x00\x00"},
		{fact("", one), "\x00\x02\x02\x02"},
		{fact("A b\x00\xff", impl.Val{}), "\x0aA b\x00\xff\x02\x00\x00"},
		{fact("a", impl.Val{K: 3, N: 7, S: "A"}, num(math.MaxInt)), "\x02a\x04\x06\x02A\x02\x80\xa8\xd6\xb9\x07"},
		{fact("a", one, one, one, one, one, one), "\x02a\x0c" + strings.Repeat("\x02\x02", 6)},
		{fact("a", slices.Repeat([]impl.Val{one}, 64)...), "\x02a\x80\x01" + strings.Repeat("\x02\x02", 64)},
		{fact(strings.Repeat("a", 64)), "\x80\x01" + strings.Repeat("a", 64) + "\x00"},
	} {
		if b := impl.PutFact(nil, x.f); string(b) != x.want {
			t.Errorf("%v: %x", x.f, b)
		}
		if b := impl.PutFact([]byte("xy"), x.f); string(b) != "xy"+x.want {
			t.Errorf("behind others, %v: %x", x.f, b)
		}
	}
}

func TestFactsComeBackOfTheirBytes(t *testing.T) {
	var all []byte
	for _, f := range goodFacts() {
		b := impl.PutFact([]byte{0x80, 2}, f)
		size := len(b)
		for _, behind := range []string{"", "\x00", "\xff\xff", "\x02\x02"} {
			if got, next, ok := impl.GetFact(append(b[:size:size], behind...), 2); !ok || !alike(got, f) || next != size {
				t.Errorf("%v: %v %d %v", f, got, next, ok)
			}
		}
		all = impl.PutFact(all, f)
	}
	at := 0
	for _, f := range goodFacts() {
		got, next, ok := impl.GetFact(all, at)
		if !ok || !alike(got, f) {
			t.Fatalf("in a row, %v: %v %v", f, got, ok)
		}
		at = next
	}
	if at != len(all) {
		t.Error(at, len(all))
	}
}

func TestGetFactRefuses(t *testing.T) {
	const a1 = "\x02a\x02\x02\x06"
	for _, x := range []struct {
		why string
		b   string
		at  int
	}{
		{"nothing", "", 0},
		{"the end", a1, 5},
		{"past the end", a1, 6},
		{"far past the end", a1, math.MaxInt},
		{"below nought", a1, -1},
		{"far below nought", a1, math.MinInt},
		{"an empty kind", "\x00\x00", 0},
		{"an empty kind, a field", "\x00\x02\x02\x06", 0},
		{"a kind of 13 bytes", "\x1a" + twelve + "a\x00", 0},
		{"a large letter as kind", "\x02A\x00", 0},
		{"a digit as kind", "\x021\x00", 0},
		{"a _ as kind", "\x02_\x00", 0},
		{"a blank in the kind", "\x04a \x00", 0},
		{"a kind that is not whole", "\x04a", 0},
		{"a kind of a length below 0", "\x01a\x00", 0},
		{"a kind of a length whose last group is 0", "\x82\x00a\x00", 0},
		{"no count", "\x02a", 0},
		{"a count that is not whole", "\x02a\x80", 0},
		{"a count whose last group is 0", "\x02a\x80\x00", 0},
		{"a count of -1", "\x02a\x01", 0},
		{"a count of -1, a field", "\x02a\x01\x02\x06", 0},
		{"a count of -MaxInt", "\x02a\xff\xa7\xd6\xb9\x07", 0},
		{"a count of 6", "\x02a\x0c" + strings.Repeat("\x02\x06", 6), 0},
		{"a count of 6, and 5 fields", "\x02a\x0c" + strings.Repeat("\x02\x06", 5), 0},
		{"a count of 64", "\x02a\x80\x01" + strings.Repeat("\x02\x06", 64), 0},
		{"a count of MaxInt", "\x02a\x80\xa8\xd6\xb9\x07\x02\x06", 0},
		{"a count beyond MaxInt", "\x02a\x82\xa8\xd6\xb9\x07\x02\x06", 0},
		{"a field too few", "\x02a\x04\x02\x06", 0},
		{"no field of one", "\x02a\x02", 0},
		{"a field that is not whole", "\x02a\x02\x02", 0},
		{"a field of kind 0", "\x02a\x02\x00\x00", 0},
		{"a field of kind 3", "\x02a\x02\x06\x02a", 0},
		{"a field beyond MaxInt", "\x02a\x02\x02\x82\xa8\xd6\xb9\x07", 0},
		{"a field with a large letter", "\x02a\x02\x04\x02A", 0},
		{"a field of 21 bytes", "\x02a\x02\x04\x2a" + twenty + "a", 0},
		{"a wrong field behind a right one", "\x02a\x04\x02\x06\x00\x00", 0},
		{"a wrong field ahead of a right one", "\x02a\x04\x00\x00\x02\x06", 0},
		{"a place within the fact", a1, 1},
	} {
		if f, next, ok := impl.GetFact([]byte(x.b), x.at); !isZeroFact(f) || next != 0 || ok {
			t.Errorf("%s: %v %d %v", x.why, f, next, ok)
		}
	}
	if _, _, ok := impl.GetFact(nil, 0); ok {
		t.Error("nil")
	}
}

func TestGetFactReadsNothingBehindTheLength(t *testing.T) {
	for _, f := range goodFacts() {
		b := impl.PutFact(nil, f)
		for n := range b {
			if got, next, ok := impl.GetFact(b[:n], 0); !isZeroFact(got) || next != 0 || ok {
				t.Errorf("%v of %d bytes: %v %d %v", f, n, got, next, ok)
			}
		}
	}
}

// What is read is the only form of its fact, so whatever is turned is another fact or none.
func TestGetFactTakesOneFormOnly(t *testing.T) {
	for _, f := range goodFacts() {
		b := impl.PutFact(nil, f)
		for at := range b {
			for c := range 256 {
				x := slices.Clone(b)
				x[at] = byte(c)
				got, next, ok := impl.GetFact(x, 0)
				if ok && (!impl.FactOk(got) || string(impl.PutFact(nil, got)) != string(x[:next])) {
					t.Errorf("%x: %v %d", x, got, next)
				}
				if !ok && (!isZeroFact(got) || next != 0) {
					t.Errorf("%x: %v %d beside a false", x, got, next)
				}
			}
		}
	}
}

func TestWhatIsNoFactDoesNotComeBack(t *testing.T) {
	for why, f := range wrongFacts() {
		got, next, ok := impl.GetFact(impl.PutFact(nil, f), 0)
		if ok && (alike(got, f) || !impl.FactOk(got)) {
			t.Errorf("%s: %v is read", why, got)
		}
		if !ok && (!isZeroFact(got) || next != 0) {
			t.Errorf("%s: %v %d beside a false", why, got, next)
		}
		if s := impl.FactText(f); s != "" {
			t.Errorf("%s: %q", why, s)
		}
	}
}

func TestFactTexts(t *testing.T) {
	for s, f := range map[string]impl.Fact{
		"k()": fact("k"), "k(0)": fact("k", num(0)), "k('')": fact("k", txt("")), "k(-1)": fact("k", num(-1)), "k('k')": fact("k", txt("k")),
		"order(1,'a',-2)":                    fact("order", num(1), txt("a"), num(-2)),
		twelve + "()":                        fact(twelve),
		"a('','','','','')":                  fact("a", txt(""), txt(""), txt(""), txt(""), txt("")),
		"a(1,2,3,4,5)":                       fact("a", num(1), num(2), num(3), num(4), num(5)),
		"a(1000000000,-1000000000)":          fact("a", num(impl.MaxInt), num(-impl.MaxInt)),
		"z_9('" + twenty + "',10,'10','0_')": fact("z_9", txt(twenty), num(10), txt("10"), txt("0_")),
	} {
		if got := impl.FactText(f); got != s {
			t.Errorf("%v: %q", f, got)
		}
		if got, ok := impl.ParseFact(s); !ok || !alike(got, f) {
			t.Errorf("%q: %v %v", s, got, ok)
		}
	}
	for _, f := range goodFacts() {
		if got, ok := impl.ParseFact(impl.FactText(f)); !ok || !alike(got, f) {
			t.Errorf("%v: %v %v", f, got, ok)
		}
	}
}

func TestParseFactRefuses(t *testing.T) {
	for _, s := range []string{
		"", " ", "(", ")", "()", "(1)", ",", "k", "k(", "k)", "k(1", "k1)", "k1", "k('a'", "k(1,2", "k)1(",
		"k((", "k))", "k(()", "k())", "k(())", "k()()", "k((1)", "k(1))", "k((1))", "k(1)(2)", "((k))", "(k())",
		"k(,)", "k(1,)", "k(,1)", "k(1,,2)", "k(,,)", "k(1 2)", "k(1'a')", "k('a''b')", "k(1;2)", "k(1.2)",
		"k()b", "k(1)b", "k(1),", "k(1).", "k(1)\n", "k(1)\x00", "k()k()",
		" k()", "k ()", "k( )", "k() ", "k( 1)", "k(1 )", "k(1, 2)", "k(1 ,2)", "k(\t1)", "\nk()", "k('a b')",
		"K()", "1()", "_()", "'k'()", "kK(1)", "k-l()", twelve + "a()", strings.Repeat("k", 1000) + "(1)", "\u00e4()", "k\x00()", "\xff(1)",
		"k(1,2,3,4,5,6)", "k(1,2,3,4,5,6,7)", "k(1,2,3,4,5,)", "k(,1,2,3,4,5)", "k(" + strings.Repeat("1,", 5000) + "1)", "k(" + strings.Repeat(",", 5000) + ")",
		"k(01)", "k(-0)", "k(+1)", "k(1000000001)", "k(-1000000001)", "k(a)", "k(A)", "k(_)", "k('A')", "k(')", "k('a)", "k(a')", "k('''')", "k('" + twenty + "a')", "k('a,b')", "k('a)')", "k(\"a\")", "k(1,a)", "k(a,1)", "k(1,2,3,4,x)", "k(k())",
	} {
		if f, ok := impl.ParseFact(s); ok || !isZeroFact(f) {
			t.Errorf("%q: %v %v", s, f, ok)
		}
	}
}

// What is read is the only text of its fact, so no two texts are one fact.
func TestParseFactTakesOneFormOnly(t *testing.T) {
	const signs = "()',-01a_ A\x00"
	for _, f := range goodFacts() {
		s := impl.FactText(f)
		for at := range len(s) + 1 {
			others := []string{s[:at]}
			for i := range len(signs) {
				others = append(others, s[:at]+signs[i:i+1]+s[at:], s[:at]+signs[i:i+1]+s[min(at+1, len(s)):])
			}
			others = append(others, s[:at]+s[min(at+1, len(s)):])
			for _, x := range others {
				got, ok := impl.ParseFact(x)
				if ok && (!impl.FactOk(got) || impl.FactText(got) != x) || !ok && !isZeroFact(got) {
					t.Errorf("%q: %v %v", x, got, ok)
				}
			}
		}
	}
}

// guardedFact is f with spare room behind its fields, and tells whether nobody wrote to either.
func guardedFact(f impl.Fact) (impl.Fact, func() bool) {
	all := append(slices.Clone(f.Fields), num(77), txt("spare"), num(78), num(79), num(80), num(81))
	was := slices.Clone(all)
	return impl.Fact{Kind: f.Kind, Fields: all[:len(f.Fields)]}, func() bool { return slices.Equal(all, was) }
}

func TestFactsWriteIntoNoArgument(t *testing.T) {
	for _, x := range append(goodFacts(), wideFacts()...) {
		f, cleanFact := guardedFact(x)
		g, cleanOther := guardedFact(x)
		b, cleanBytes := guarded("abc")
		impl.FactOk(f)
		impl.SameFact(f, g)
		impl.LessFact(f, g)
		impl.PutFact(b, f)
		impl.FactText(f)
		if !cleanFact() || !cleanOther() || !cleanBytes() {
			t.Errorf("%v", x)
		}
		content := string(impl.PutFact(nil, x))
		in, clean := guarded(content)
		for at := -1; at <= len(content)+1; at++ {
			impl.GetFact(in, at)
		}
		if !clean() {
			t.Errorf("reading %v", x)
		}
	}
}

func TestPutFactSharesNoMemory(t *testing.T) {
	for _, f := range append(goodFacts(), wideFacts()...) {
		b, clean := guarded("abc")
		one, two := impl.PutFact(b, f), impl.PutFact(b, f)
		want := string(two)
		for i := range one[:cap(one)] {
			one[:cap(one)][i] ^= 255
		}
		if !clean() || string(two) != want {
			t.Errorf("%v: an answer shares memory", f)
		}
		for i := range b {
			b[i] ^= 255
		}
		for i := range f.Fields {
			f.Fields[i] = num(99)
		}
		if string(two) != want {
			t.Errorf("%v: an answer turns with its argument", f)
		}
	}
}

func TestFactsThatAreReadShareNoMemory(t *testing.T) {
	for _, f := range goodFacts() {
		b := impl.PutFact(nil, f)
		one, _, _ := impl.GetFact(b, 0)
		two, _, _ := impl.GetFact(b, 0)
		three, _ := impl.ParseFact(impl.FactText(f))
		four, _ := impl.ParseFact(impl.FactText(f))
		for i := range b {
			b[i] = 'q'
		}
		for _, x := range []impl.Fact{one, three} {
			all := x.Fields[:cap(x.Fields)]
			for i := range all {
				all[i] = num(99)
			}
		}
		if !alike(two, f) || !alike(four, f) {
			t.Errorf("%v: %v %v", f, two, four)
		}
	}
}
