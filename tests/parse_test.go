package tests

import (
	"cmp"
	"fmt"
	"math/rand/v2"
	"reflect"
	"regexp"
	"slices"
	"strconv"
	"strings"
	"testing"

	"loop.example/g00282/impl"
)

func checkParse(t *testing.T, s string, want impl.Def) {
	t.Helper()
	if d, ok := impl.ParseDef(s); !ok || !alikeDefs(d, want) || !impl.SameDef(d, want) || !impl.DefOk(d) {
		t.Errorf("%.300q: %v %v, not %v", s, ok, d, want)
	}
}

func checkParseRefuses(t *testing.T, s string) {
	t.Helper()
	if d, ok := impl.ParseDef(s); ok || !alikeDefs(d, impl.Def{}) {
		t.Errorf("%.300q: %v %v", s, ok, d)
	}
}

// withPats is the text of a definition with these patterns.
func withPats(s string) string { return "def d. rule r 0: " + s + " -> done." }

// withCond is the text of a definition with what stands between the patterns, which bind X and Y, and the arrow.
func withCond(s string) string { return "def d. rule r 0: a(X, Y)" + s + " -> done." }

// withActs is the text of a definition with these acts, and with patterns that bind X and Y.
func withActs(s string) string { return "def d. rule r 0: a(X, Y) -> " + s + "." }

func defWithPats(ps ...impl.Pat) impl.Def { return def("d", ruleOf(ps...)) }

func defWithConds(cs ...impl.Cond) impl.Def {
	return def("d", rule(pats(pat("a", avar("X"), avar("Y"))), cs, impl.Act{Kind: impl.AcDone}))
}

func defWithActs(as ...impl.Act) impl.Def {
	return def("d", rule(pats(pat("a", avar("X"), avar("Y"))), nil, as...))
}

func TestDefsComeBack(t *testing.T) {
	for _, d := range goodDefs() {
		checkParse(t, impl.DefText(d), d)
	}
	checkParse(t, richText, richDef())
}

// Each mixture of parts of a rule that may be one comes back, alone and with others.
func TestDefsOfAllMixturesComeBack(t *testing.T) {
	var rules []impl.Rule
	for _, p := range patParts() {
		for _, c := range condParts() {
			for i, a := range actParts() {
				if r := (impl.Rule{Name: "r", Sal: 15*i - 95, Pats: p.l, Conds: c.l, Acts: a.l}); impl.RuleOk(r) {
					rules = append(rules, r)
				}
			}
		}
	}
	if len(rules) < 150 {
		t.Fatal(len(rules))
	}
	for l := range slices.Chunk(rules, 12) {
		checkParse(t, impl.DefText(def("mixture", l[0])), def("mixture", l[0]))
		d := def("mixture", namedInRow(l...)...)
		checkParse(t, impl.DefText(d), d)
	}
}

// What is bent and still right has another text, and comes back as what it is.
func TestBentDefsComeBack(t *testing.T) {
	for _, d := range append(fewDefs(), wordDef("undo"), wordDef("task")) {
		texts := map[string]impl.Def{impl.DefText(d): d}
		eachBend(d, func(where string, bent impl.Def) {
			text := impl.DefText(bent)
			if !impl.DefOk(bent) {
				if text != "" {
					t.Errorf("%s: %q", where, text)
				}
				return
			}
			if other, ok := texts[text]; ok && !alikeDefs(bent, other) {
				t.Errorf("%s: %q is the text of another one", where, text)
			}
			texts[text] = bent
			checkParse(t, text, bent)
		})
	}
}

func TestWordsAsNames(t *testing.T) {
	var all []impl.Rule
	for _, s := range words() {
		checkParse(t, impl.DefText(wordDef(s)), wordDef(s))
		checkParse(t, strings.ReplaceAll("def W.rule W 0:W(X),!W()->assert W(X),task W()undo W,timer 5 W(X),task W(X),drop 0.", "W", s), wordDef(s))
		all = append(all, wordDef(s).Rules...)
	}
	checkParse(t, impl.DefText(def("rule", all...)), def("rule", all...))
	for _, s := range []string{"def. rule r 0: a() -> done.", "def d. rule 0: a() -> done.", "rule d. rule r 0: a() -> done.", "def d. def r 0: a() -> done.", "'def' d. rule r 0: a() -> done.", "def d. 'rule' r 0: a() -> done.", "def 'd'. rule r 0: a() -> done.", "def d. rule 'r' 0: a() -> done.", "def d. rule r 0: 'a'() -> done.", "def d. rule r 0: a() -> 'done'."} {
		checkParseRefuses(t, s)
	}
}

// Texts of 0 to 14 rules that are right each for itself.
func TestTextsOfManyRules(t *testing.T) {
	for n := range 15 {
		rules := shortRules(n)
		text := "def d.\n"
		for _, r := range rules {
			text += impl.RuleText(r)
		}
		if n >= 1 && n <= 12 {
			checkParse(t, text, def("d", rules...))
		} else {
			checkParseRefuses(t, text)
		}
	}
	checkParseRefuses(t, "def d."+strings.Repeat("rule r 0:a()->done.", 290))
}

func TestTextsWithRulesOfOneName(t *testing.T) {
	for n := 2; n <= 12; n++ {
		for i := range n {
			for k := range i {
				rules := shortRules(n)
				rules[i].Name = rules[k].Name
				text := "def d.\n"
				for _, r := range rules {
					text += impl.RuleText(r)
				}
				checkParseRefuses(t, text)
			}
		}
	}
}

// A rule of the text that is none, at each place among others: its tokens are well in order, but it has too much, or binds too little.
func TestTextsWithAWrongRuleAtEachPlace(t *testing.T) {
	x := "a(X), "
	wrong := []string{"s 101: a() -> done", "s -101: a() -> done", "s 0: !a() -> done", "s 0: a(), !b(), a() -> done", "s 0: " + strings.Repeat(x, 3) + "a() -> done", "s 0: a()" + strings.Repeat(", !b()", 6) + " -> done", "s 0: a(X)" + " + X = 1" + strings.Repeat(", X = 1", 6) + " -> done", "s 0: a() -> done" + strings.Repeat(", done", 6), "s 0: a() -> drop 1", "s 0: a(), !b() -> drop 1", "s 0: a(X) + Y = X -> done", "s 0: a(), !b(X) + X = 1 -> done", "s 0: a(X) -> assert b(Y)", "s 0: a(X) -> task b(X + Y)", "s 0: a(_) -> timer 5 b(_)", "s 0: a(X) + _ = X -> done", "s 0: a() -> timer 100001 l()", "s 0: a() -> done undo u", "s 0: a() -> timer 5 l() undo u", "s 0: a() -> assert b() undo u", "s 0: a() -> drop 0 undo u", "s 0: a() -> fail undo u", "s -0: a() -> done"}
	for _, text := range wrong {
		checkParseRefuses(t, "def d. rule "+text+".")
		for at := range 4 {
			rules := []string{"rule a 0: a() -> done.", "rule b 0: a() -> done.", "rule c 0: a() -> done.", "rule d 0: a() -> done."}
			rules[at] = "rule " + text + "."
			checkParseRefuses(t, "def d. "+strings.Join(rules, " "))
		}
	}
}

// defOfTokens is a definition whose text has n tokens, of 3999 at most: each number that is not below 0 is one token less.
func defOfTokens(n int) impl.Def {
	less := aval(num(-1))
	five, terms := slices.Repeat([]impl.Arg{less}, 5), slices.Repeat(exprs(minus(less, less)), 5)
	big := rule(append(pats(pat("a", five...)), slices.Repeat(pats(notPat("a", five...)), 5)...), nil, slices.Repeat(acts(taskAct("u", "t", terms...)), 6)...)
	d, over := cloneDef(def("d", namedInRow(slices.Repeat([]impl.Rule{big}, 12)...)...)), 3999-n
	shorten := func(a *impl.Arg) {
		if over > 0 {
			*a, over = aval(num(1)), over-1
		}
	}
	for _, r := range d.Rules {
		for _, p := range r.Pats {
			for i := range p.Args {
				shorten(&p.Args[i])
			}
		}
		for _, a := range r.Acts {
			for i := range a.Args {
				shorten(&a.Args[i].L)
				shorten(&a.Args[i].R)
			}
		}
	}
	return d
}

func TestTextsOfJustMaxTokens(t *testing.T) {
	for _, n := range []int{2998, 2999, 3000} {
		d := defOfTokens(n)
		text := impl.DefText(d)
		if l, place := impl.Lex(text); len(l) != n || place != -1 {
			t.Fatal(n, len(l), place)
		}
		for _, s := range []string{text, " % a remark\n" + text + "%", impl.JoinTokens(tokensOf(text)), strings.ReplaceAll(text, " ", "\t% some more\n  ")} {
			checkParse(t, s, d)
		}
		checkParseRefuses(t, text+".")
	}
	for _, n := range []int{3001, 3002, 3999} {
		d := defOfTokens(n)
		text := impl.DefText(d)
		checkDef(t, strconv.Itoa(n)+" tokens", true, d)
		if l, place := impl.Lex(text); len(l) != 0 || place < 0 {
			t.Error(n, len(l), place)
		}
		checkParseRefuses(t, text)
	}
}

func tokensOf(s string) []impl.Token {
	l, _ := impl.Lex(s)
	return l
}

// wordsOf are the texts of the tokens of a text.
func wordsOf(s string) []string {
	var l []string
	for _, x := range tokensOf(s) {
		l = append(l, impl.TokenText(x))
	}
	return l
}

// shortTexts are right ones, with what may stand in a definition, not too long to be tried in many ways.
func shortTexts() []string {
	return []string{
		"def d.\nrule r 0: a() -> done.\n",
		"def d.\nrule r -5: a(X, -1), !b(_, 'c') + X < -3 -> drop 0, fail.\n",
		"def d.\nrule r 7: a(X) -> timer 60 l(X - -1, 2 + X), task t(X) undo u.\nrule s 0: b(), a(X) + X = X, 'a' # 0 -> assert b(X).\n",
	}
}

func TestBlanksAndRemarksDoNotMatter(t *testing.T) {
	blanks := []string{" ", "\t", "\n", "\r", "  \r\n\t ", "%\n", "% it's a remark; -> (\n", "%\x00\xff%\n% \n", "\n% done.\n \t"}
	for _, text := range append(shortTexts(), richText) {
		l := wordsOf(text)
		want, ok := impl.ParseDef(text)
		if !ok || impl.DefText(want) != text {
			t.Fatal(text)
		}
		for _, blank := range blanks {
			checkParse(t, strings.Join(l, blank), want)
			checkParse(t, blank+strings.Join(l, blank)+blank, want)
			for i := range len(l) + 1 {
				checkParse(t, strings.Join(l[:i], " ")+blank+strings.Join(l[i:], " "), want)
			}
		}
		for _, behind := range []string{"%", "% a remark", " % rule s 0: a() -> done.", "%'", "%;\x00"} {
			checkParse(t, text+behind, want)
		}
	}
}

// Where two tokens are the same without a blank they need none; where they are not, it is no definition any more.
func TestBlanksWhereTokensNeedThem(t *testing.T) {
	for _, text := range append(shortTexts(), richText) {
		l, tight, needed := wordsOf(text), "", 0
		for i, s := range l {
			if i > 0 {
				pair, place := lexByForms(l[i-1] + s)
				if place == -1 && len(pair) == 2 {
					checkParse(t, strings.Join(l[:i], " ")+strings.Join(l[i:], " "), mustParse(t, text))
				} else {
					checkParseRefuses(t, strings.Join(l[:i], " ")+strings.Join(l[i:], " "))
					tight, needed = tight+" ", needed+1
				}
			}
			tight += s
		}
		checkParse(t, tight, mustParse(t, text))
		if needed < 3 {
			t.Error(text, needed)
		}
	}
	checkParse(t, "def d.rule r-5:a(X,-1),!b(_,'c')+X<-3->drop 0,fail.", mustParse(t, shortTexts()[1]))
}

func mustParse(t *testing.T, s string) impl.Def {
	t.Helper()
	d, ok := impl.ParseDef(s)
	if !ok {
		t.Fatal(s)
	}
	return d
}

// A numberPlace is where the text of a definition has a number, and what is read there.
type numberPlace struct {
	text     string
	least    int
	most     int
	numberOf func(r impl.Rule) int
}

func numberPlaces() map[string]numberPlace {
	term := func(read func(e impl.Expr) impl.Arg) func(r impl.Rule) int {
		return func(r impl.Rule) int { return read(r.Acts[0].Args[0]).V.N }
	}
	left := term(func(e impl.Expr) impl.Arg { return e.L })
	right := term(func(e impl.Expr) impl.Arg { return e.R })
	const most = impl.MaxInt
	return map[string]numberPlace{
		"a Sal":                       {"def d. rule r @: a() -> done.", -100, 100, func(r impl.Rule) int { return r.Sal }},
		"a pattern":                   {withPats("a(@)"), -most, most, func(r impl.Rule) int { return r.Pats[0].Args[0].V.N }},
		"a pattern's last of 5":       {withPats("a(X, _, 'a', -7, @)"), -most, most, func(r impl.Rule) int { return r.Pats[0].Args[4].V.N }},
		"a pattern that is Not":       {withPats("a(X), !b(X, @, _)"), -most, most, func(r impl.Rule) int { return r.Pats[1].Args[1].V.N }},
		"the left of a condition":     {withCond(" + @ = X"), -most, most, func(r impl.Rule) int { return r.Conds[0].L.V.N }},
		"the right of a condition":    {withCond(" + X < @"), -most, most, func(r impl.Rule) int { return r.Conds[0].R.V.N }},
		"a condition between two":     {withCond(" + X = 1, Y # @, X < 2"), -most, most, func(r impl.Rule) int { return r.Conds[1].R.V.N }},
		"a term alone":                {withActs("assert n(@)"), -most, most, left},
		"a term ahead of others":      {withActs("task n(@, 5 - 5, X) undo u"), -most, most, left},
		"the left of a sum":           {withActs("assert n(@ + X)"), -most, most, left},
		"the right of a sum":          {withActs("timer 9 n(X + @)"), -most, most, right},
		"the left of a difference":    {withActs("task n(@ - X)"), -most, most, left},
		"the right of a difference":   {withActs("task n(X - @)"), -most, most, right},
		"the right of two numbers":    {withActs("task n(1 - @)"), -most, most, right},
		"the right of one below 0":    {withActs("task n(-1 - @)"), -most, most, right},
		"a drop":                      {"def d. rule r 0: a(), b(), c() -> drop @.", 0, 2, func(r impl.Rule) int { return r.Acts[0].N }},
		"a timer":                     {withActs("timer @ l()"), 0, 100000, func(r impl.Rule) int { return r.Acts[0].N }},
		"a timer with the same twice": {withActs("timer @ l(60)"), 0, 100000, func(r impl.Rule) int { return r.Acts[0].N }},
	}
}

// edgesOfNumbers are about each limit that a number of a definition has.
func edgesOfNumbers() []int {
	return []int{0, 1, 2, 3, 6, 7, 8, 9, 10, 99, 100, 101, 102, 255, 256, 99999, 100000, 100001, 1<<31 - 1, 1 << 31, 1 << 32, 1<<32 + 1, impl.MaxInt - 1, impl.MaxInt, impl.MaxInt + 1, 2*impl.MaxInt + 1, 1<<63 - 1}
}

func checkNumber(t *testing.T, why string, at numberPlace, form string, n int) {
	t.Helper()
	s := strings.ReplaceAll(at.text, "@", form)
	if n < at.least || n > at.most {
		checkParseRefuses(t, s)
		return
	}
	d, ok := impl.ParseDef(s)
	if !ok || len(d.Rules) != 1 || at.numberOf(d.Rules[0]) != n || !impl.DefOk(d) {
		t.Errorf("%s: %q: %v %v", why, s, ok, d)
		return
	}
	checkParse(t, strings.ReplaceAll(at.text, "@", strconv.Itoa(n)), d)
}

// A sign may stand ahead of a number above 0, with blanks between or none; ahead of 0 it may not.
func TestSignsOfNumbers(t *testing.T) {
	for why, at := range numberPlaces() {
		for _, n := range edgesOfNumbers() {
			digits := strconv.Itoa(n)
			checkNumber(t, why, at, digits, n)
			for _, sign := range []string{"-", "- ", "-\t\r\n", "-% a remark\n", " -"} {
				if n == 0 {
					checkParseRefuses(t, strings.ReplaceAll(at.text, "@", sign+digits))
				} else {
					checkNumber(t, why, at, sign+digits, -n)
				}
			}
			for _, ahead := range []string{"+", "+ ", "--", "- -", "-+", "+-", "->", "0", "00", "-0", "!", "#", "(", "'", "_", "a", "1 ", "1, ,", "x-", "'-"} {
				checkParseRefuses(t, strings.ReplaceAll(at.text, "@", ahead+digits))
			}
			for _, behind := range []string{"-", "+", " 1", "_", "a", ".", ".5", ",", "'", "()", "X"} {
				checkParseRefuses(t, strings.ReplaceAll(at.text, "@", digits+behind))
			}
		}
		// Where a number is all that stands in brackets, there may also be none.
		_, ok := impl.ParseDef(strings.ReplaceAll(at.text, "@", ""))
		if ok != strings.Contains(at.text, "(@)") {
			t.Errorf("%s: none, %v", why, ok)
		}
		for _, form := range []string{"-", "+", "- -", "a", "-a", "-X", "-_", "-'a'", "-''", "'", "()", "(1)", "18446744073709551616", "18446744073709551617", "-18446744073709551617", strings.Repeat("9", 5000), "\u0661", "1\x00", "0x1", "1e1", "\u22121"} {
			checkParseRefuses(t, strings.ReplaceAll(at.text, "@", form))
		}
	}
}

// What is no number may stand where a value may, and nowhere else.
func TestWhatElseMayStandInPlaceOfANumber(t *testing.T) {
	for why, at := range numberPlaces() {
		for _, form := range []string{"'5'", "''", "X", "_"} {
			isPattern, isValue := strings.HasPrefix(why, "a pattern"), at.least == -impl.MaxInt
			_, ok := impl.ParseDef(strings.ReplaceAll(at.text, "@", form))
			if want := isValue && (form != "_" || isPattern); ok != want {
				t.Errorf("%s: %s: %v", why, form, ok)
			}
		}
	}
}

func TestTextsOfTerms(t *testing.T) {
	x, y, one, less, zero, a := avar("X"), avar("Y"), aval(num(1)), aval(num(-1)), aval(num(0)), aval(txt("a"))
	for s, want := range map[string][]impl.Expr{
		"": nil, "X": exprs(plain(x)), "'a'": exprs(plain(a)), "1": exprs(plain(one)), "-1": exprs(plain(less)), "- 1": exprs(plain(less)), "0": exprs(plain(zero)), "''": exprs(plain(aval(txt("")))),
		"X + Y": exprs(plus(x, y)), "X+Y": exprs(plus(x, y)), "X - Y": exprs(minus(x, y)), "X-Y": exprs(minus(x, y)), "X - X": exprs(minus(x, x)), "'a' + 'a'": exprs(plus(a, a)), "'a'-X": exprs(minus(a, x)),
		"X - 1": exprs(minus(x, one)), "X -1": exprs(minus(x, one)), "X-1": exprs(minus(x, one)), "X- 1": exprs(minus(x, one)), "X + 1": exprs(plus(x, one)), "X+1": exprs(plus(x, one)),
		"X - -1": exprs(minus(x, less)), "X--1": exprs(minus(x, less)), "X - - 1": exprs(minus(x, less)), "X -- 1": exprs(minus(x, less)), "X + -1": exprs(plus(x, less)), "X+-1": exprs(plus(x, less)), "X + - 1": exprs(plus(x, less)),
		"1 - 1": exprs(minus(one, one)), "1-1": exprs(minus(one, one)), "1 -1": exprs(minus(one, one)), "1--1": exprs(minus(one, less)), "-1--1": exprs(minus(less, less)), "-1 - 1": exprs(minus(less, one)), "-1-1": exprs(minus(less, one)), "- 1 - - 1": exprs(minus(less, less)), "-1 + -1": exprs(plus(less, less)),
		"0 - 0": exprs(minus(zero, zero)), "0-1": exprs(minus(zero, one)), "-1+0": exprs(plus(less, zero)), "1 - 0": exprs(minus(one, zero)), "0 - -1": exprs(minus(zero, less)),
		"X, Y": exprs(plain(x), plain(y)), "X,-1": exprs(plain(x), plain(less)), "X - 1, -1, Y": exprs(minus(x, one), plain(less), plain(y)), "X + 1, X - 1": exprs(plus(x, one), minus(x, one)), "1, 1, 1, 1, 1": exprs(plain(one), plain(one), plain(one), plain(one), plain(one)),
		"X + 1, 1 - X, X, -1 - -1, 'a'": exprs(plus(x, one), minus(one, x), plain(x), minus(less, less), plain(a)),
	} {
		checkParse(t, withActs("assert n("+s+")"), defWithActs(assertAct("n", want...)))
		checkParse(t, withActs("task t("+s+"), timer 5 n("+s+"), task n("+s+") undo u"), defWithActs(taskAct("", "t", want...), timerAct(5, "n", want...), taskAct("u", "n", want...)))
	}
	for _, s := range []string{"-", "+", "-X", "- X", "+X", "+ 1", "-'a'", "--1", "- - 1", "-0", "- 0", "X - -0", "-0 - X", "X + -0", "0 - -0", "X +", "X -", "X + + 1", "X - + 1", "X + - - 1", "X - - - 1", "X - -X", "X - - Y", "X + -Y", "X + 1 + 1", "X - 1 - 1", "X + 1 - 1", "1 - 1 - 1", "1 + 1 + 1", "X Y", "X 1", "1 1", "'a' 'a'", "(X)", "(X + 1)", "((X))", "X * 2", "X / 2", "X = 1", "X # 1", "X < 1", "X -> 1", "X : 1", "X . 1", "_", "_ + 1", "1 + _", "X, _", "n", "n()", "X + n", "!X", "Z", "X + Z", "Z - 1", ",", "X,", ",X", "X,,Y", "X, ,", "X; Y", "1, 1, 1, 1, 1, 1", "X + 1, X, X, X, X, X - 1", "1,1,1,1,1,", "'a'b'", "'''", "''''", "'a''a'", "'A'", "'a b'", "\"a\"", "'" + twenty + "a'"} {
		for _, act := range []string{"assert n(@)", "task n(@)", "task n(@) undo u", "timer 5 n(@)", "done, assert n(@)", "assert n(@), done"} {
			checkParseRefuses(t, withActs(strings.ReplaceAll(act, "@", s)))
		}
	}
}

func TestTextsOfPatterns(t *testing.T) {
	x, y, one, less := avar("X"), avar("Y"), aval(num(1)), aval(num(-1))
	for s, want := range map[string]impl.Pat{
		"a()": pat("a"), "a( )": pat("a"), "a%\n(%\n)": pat("a"), twelve + "()": pat(twelve), "a(X)": pat("a", x), "a(_)": pat("a", aany()), "a(1)": pat("a", one), "a(-1)": pat("a", less), "a(- 1)": pat("a", less), "a('')": pat("a", aval(txt(""))), "a('a')": pat("a", aval(txt("a"))),
		"a(X,Y)": pat("a", x, y), "a(X, X)": pat("a", x, x), "a(_,_)": pat("a", aany(), aany()), "a(_, X, _, -1, 1)": pat("a", aany(), x, aany(), less, one), "a(X, X, X, X, X)": pat("a", x, x, x, x, x), "a('1',1,'_',_,'')": pat("a", aval(txt("1")), one, aval(txt("_")), aany(), aval(txt(""))),
		"a(" + twelveVar + ", '" + twenty + "')": pat("a", avar(twelveVar), aval(txt(twenty))),
	} {
		checkParse(t, withPats(s), defWithPats(want))
		not := want
		not.Not = true
		checkParse(t, withPats("first(), !"+s), defWithPats(pat("first"), not))
		checkParse(t, withPats(s+", "+s+", ! "+s+", !%\n"+s), defWithPats(want, want, not, not))
		checkParseRefuses(t, withPats("!"+s))
		checkParseRefuses(t, withPats("!"+s+", "+s))
		checkParseRefuses(t, withPats(s+", !"+s+", "+s))
	}
	for _, s := range []string{"", "a", "()", "a(", "a)", "a(()", "a())", "a()()", "(a())", "a((X))", "a.()", "a:()", "a(,)", "a(X,)", "a(,X)", "a(X,,Y)", "a(X Y)", "a(X 1)", "a(X; Y)", "a(X. Y)", "a(!X)", "a(b)", "a(b())", "a(X + 1)", "a(1 + 1)", "a(1 - 1)", "a(X - 1)", "a(+1)", "a(-X)", "a(-_)", "a(-'a')", "a(-0)", "a(- 0)", "a(01)", "a(X = 1)", "a(X, X, X, X, X, X)", "a(_, _, _, _, _, _)", "a(1,1,1,1,1,1)", "a(X,X,X,X,X,)", "!", "!!a()", "! !a()", "a!()", "a()!", "A()", "X", "X()", "_()", "_", "1()", "'a'()", "a(__)", "a(_a)", "a('b'c')", "a(''')", "a('''')", "a('a''b')", "a('a)", "a(a')", "a('a' 'b')", "a('A')", "a('a b')", "a('%')", "a('-1')", "a('" + twenty + "a')", "a(\"b\")", twelve + "a()", "a(" + twelveVar + "a)", "a(1000000001)", "not a()", "a(), b", "a() b()", "a(),, b()", ", a()", "a(),", "a(); b()", "a() + ", "a() and b()"} {
		checkParseRefuses(t, withPats(s))
		checkParseRefuses(t, withPats("first(X), "+s))
		checkParseRefuses(t, withPats(s+", last(X)"))
		checkParseRefuses(t, withPats("first(X), !"+s+" + X = 1"))
	}
}

func TestTextsOfConditions(t *testing.T) {
	x, y, one, less := avar("X"), avar("Y"), aval(num(1)), aval(num(-1))
	for s, want := range map[string][]impl.Cond{
		"": nil, " + X = Y": conds(cond(impl.CSame, x, y)), "+X#Y": conds(cond(impl.COther, x, y)), "+X<Y": conds(cond(impl.CLess, x, y)), " + Y < X": conds(cond(impl.CLess, y, x)), " + X = X": conds(cond(impl.CSame, x, x)), "%\n+%\nX%\n=%\nY%\n": conds(cond(impl.CSame, x, y)),
		"+1<-1": conds(cond(impl.CLess, one, less)), "+-1<1": conds(cond(impl.CLess, less, one)), " + - 1 # - 1": conds(cond(impl.COther, less, less)), "+X<-1": conds(cond(impl.CLess, x, less)), "+'a'='b'": conds(cond(impl.CSame, aval(txt("a")), aval(txt("b")))), "+''#X": conds(cond(impl.COther, aval(txt("")), x)),
		" + X = 1, Y # 1, X < Y": conds(cond(impl.CSame, x, one), cond(impl.COther, y, one), cond(impl.CLess, x, y)), "+X=-1,-1=X": conds(cond(impl.CSame, x, less), cond(impl.CSame, less, x)), " + X = 1, X = 1, X = 1, X = 1, X = 1, X = 1": slices.Repeat(conds(cond(impl.CSame, x, one)), 6),
	} {
		checkParse(t, withCond(s), defWithConds(want...))
	}
	for _, s := range []string{"+", " + ", " +,", " + X", " + X =", " + = X", " + =", " + X = 1,", " +, X = 1", " + X = 1,, Y = 1", " + X = 1 Y = 1", " + X = 1 + Y = 1", " + + X = 1", " + X == 1", " + X = = 1", " + X > 1", " + X >= 1", " + X <= 1", " + X =< 1", " + X ! 1", " + X != 1", " + X - 1", " + X + 1", " + X : 1", " + X . 1", " + X -> 1", " + X ( 1", " + X, 1", " + X 1", " + _ = X", " + X = _", " + _ = _", " + X = Z", " + Z = X", " + Z < 1", " + X = y", " + x = Y", " + a() = X", " + X = -Y", " + -X = Y", " + X = -0", " + -0 = X", " + X = +1", " + +1 = X", " + X = --1", " + X = 01", " + X + 1 = Y", " + X = Y + 1", " + X = Y - 1", " + X - 1 = 1", " + (X = 1)", " + !X = 1", " + X 'a' Y", " + X '=' Y", " + X = 1, X = 1, X = 1, X = 1, X = 1, X = 1, X = 1", " + X = 1000000001", " + X = 'a'b'", " + X = '''", " + X = 'A'", " X = 1", ", X = 1", " - X = 1", ", + X = 1", " & X = 1", " if X = 1"} {
		checkParseRefuses(t, withCond(s))
	}
}

func TestTextsOfActs(t *testing.T) {
	x, five := plain(avar("X")), slices.Repeat(exprs(plain(avar("X"))), 5)
	done, fail := impl.Act{Kind: impl.AcDone}, impl.Act{Kind: impl.AcFail}
	for s, want := range map[string][]impl.Act{
		"done": acts(done), "fail": acts(fail), "drop 0": acts(dropAct(0)), "drop%\n0": acts(dropAct(0)), "assert a()": acts(assertAct("a")), "assert a( )": acts(assertAct("a")), "assert a(X)": acts(assertAct("a", x)), "assert a(X,X,X,X,X)": acts(assertAct("a", five...)),
		"task t()": acts(taskAct("", "t")), "task t() undo u": acts(taskAct("u", "t")), "task t()undo u": acts(taskAct("u", "t")), "task t(X, X, X, X, X) undo t": acts(taskAct("t", "t", five...)), "task t(X)": acts(taskAct("", "t", x)), "task " + twelve + "() undo " + twelve: acts(taskAct(twelve, twelve)),
		"timer 0 t()": acts(timerAct(0, "t")), "timer 100000 t(X)": acts(timerAct(100000, "t", x)), "timer 60 t(X, X, X, X, X)": acts(timerAct(60, "t", five...)), "timer 7t()": acts(timerAct(7, "t")),
		"done, done, done, done, done, done": acts(done, done, done, done, done, done), "fail,done": acts(fail, done), "drop 0, drop 0": acts(dropAct(0), dropAct(0)), "task t() undo u, task u() undo t, task t()": acts(taskAct("u", "t"), taskAct("t", "u"), taskAct("", "t")), "assert a(), assert a(X), done, task t(), timer 5 t(), drop 0": acts(assertAct("a"), assertAct("a", x), done, taskAct("", "t"), timerAct(5, "t"), dropAct(0)),
	} {
		checkParse(t, withActs(s), defWithActs(want...))
	}
	for _, s := range []string{"", "fly", "fly a()", "a()", "!a()", "X", "_", "0", "'done'", "'drop' 0", "Done", "done()", "done 0", "done done", "done X", "done undo", "done undo u", "fail()", "fail 1", "fail a()", "fail undo u", "drop", "drop X", "drop 'a'", "drop a()", "drop ()", "drop (0)", "drop -1", "drop -0", "drop - 0", "drop +0", "drop 00", "drop 1", "drop 7", "drop 8", "drop 0 0", "drop 0 a()", "drop 0 undo u", "drop 0()", "assert", "assert a", "assert a(", "assert a)", "assert ()", "assert !a()", "assert A()", "assert 5 a()", "assert a() undo u", "assert a() undo", "assert a()()", "assert a() a()", "assert a(X, X, X, X, X, X)", "assert 'a'()", "assert drop 0", "task", "task t", "task ()", "task 5 t()", "task T()", "task t() undo", "task t() undo U", "task t() undo 'u'", "task t() undo 5", "task t() undo u()", "task t() undo u undo v", "task t() undo undo u", "task t() u", "task t() 'undo' u", "task t() Undo u", "task t() undo " + twelve + "a", "task t undo u()", "undo u", "undo u task t()", "task undo u", "task t(X, X, X, X, X, X)", "timer", "timer 5", "timer t()", "timer 5 t", "timer 5 ()", "timer 5 5 t()", "timer X t()", "timer (5) t()", "timer -5 t()", "timer - 5 t()", "timer -0 t()", "timer +5 t()", "timer 05 t()", "timer 100001 t()", "timer 1000000001 t()", "timer 5 T()", "timer 5 t() undo u", "timer 5, t()", "timer t() 5", "timer '5' t()", "timer 5 t(X, X, X, X, X, X)", ",", "done,", ",done", "done,,done", "done; done", "done. done", "done -> done", "done + done", "(done)", "done, done, done, done, done, done, done", "done, fly", "fly, done", "assert a(Z)", "task t(Z) undo u", "timer 5 t(Z)"} {
		checkParseRefuses(t, withActs(s))
		checkParseRefuses(t, withActs("done, "+s))
		checkParseRefuses(t, withActs(s+", done"))
	}
}

func TestTextsThatAreNoDefinitions(t *testing.T) {
	good := "def d. rule r 0: a() -> done."
	checkParse(t, good, def("d", ruleOf(pat("a"))))
	for _, s := range []string{
		"", " ", "%", "%\n", "\n\n", ".", "def", "def .", "def d", "def d.", "def d..", "def d:", "def D.", "def 1.", "def _.", "def 'd'.", "def d e. rule r 0: a() -> done.", "def " + twelve + "a. rule r 0: a() -> done.", "def d rule r 0: a() -> done.", "def d, rule r 0: a() -> done.", "def d: rule r 0: a() -> done.", "def d(). rule r 0: a() -> done.",
		"d. rule r 0: a() -> done.", "rule r 0: a() -> done.", "rule r 0: a() -> done. def d.", ". rule r 0: a() -> done.", "Def d. rule r 0: a() -> done.", "def d. Rule r 0: a() -> done.", "def d. r 0: a() -> done.", "def d. rule 0: a() -> done.", "def d. rule r: a() -> done.", "def d. rule R 0: a() -> done.", "def d. rule r 0 a() -> done.", "def d. rule r 0, a() -> done.", "def d. rule r 0. a() -> done.", "def d. rule r 0: -> done.", "def d. rule r 0: a().", "def d. rule r 0: a() ->.", "def d. rule r 0: a() -> .", "def d. rule r 0: a() -> done", "def d. rule r 0: a() done.", "def d. rule r 0: a() - > done.", "def d. rule r 0: a() - done.", "def d. rule r 0: a() => done.", "def d. rule r 0: a() -> -> done.", "def d. rule r 0: a() <- done.", "def d. rule r 0: a() -> done:", "def d. rule r 0: a() -> done,", "def d. rule r 0 0: a() -> done.", "def d. rule r X: a() -> done.", "def d. rule r 'a': a() -> done.", "def d. rule r s 0: a() -> done.", "def d. rule r (0): a() -> done.", "def d.. rule r 0: a() -> done.",
		good + ".", good + " .", good + " a", good + " 0", good + " X", good + " ''", good + "rule", good + " rule s", good + " rule s 0:", good + " rule s 0: a() -> done", good + " rule r 0: a() -> done.", good + good, good + " def e.", good + " done.", good + ";", good + "'", good + "\x00", ". " + good, "; " + good, "a " + good, "\x00" + good, "\ufeff" + good, good + "% \n;", strings.Repeat("(", 3000), strings.Repeat("def ", 3000), "def d. rule r 0: " + strings.Repeat("a(), ", 500), "def d. rule r 0: a(" + strings.Repeat("X, ", 1000), strings.Repeat("a", 100000), strings.Repeat("\xff", 100),
	} {
		checkParseRefuses(t, s)
	}
	checkParse(t, good+" rule s 0: a() -> done.", def("d", ruleOf(pat("a")), named("s", ruleOf(pat("a")))))
}

const (
	nameForm = `[a-z][a-z0-9_]*`
	sideForm = `(?:[A-Z][A-Za-z0-9_]*|'[a-z0-9_]*'|[0-9]+|- [1-9][0-9]*)`
	termForm = sideForm + `(?: [+-] ` + sideForm + `)?`
)

// upTo is the form of at most n of these in a row.
func upTo(n int, form string) string {
	return `(?:` + form + `)(?: , (?:` + form + `)){0,` + strconv.Itoa(n-1) + `}`
}

func inBrackets(form string) string { return `\( (?:` + upTo(5, form) + ` )?\)` }

var (
	termsForm = nameForm + ` ` + inBrackets(termForm)
	ruleForm  = regexp.MustCompile(`\Arule (` + nameForm + `) ((?:- [1-9]|[0-9])[0-9]*) : (` + upTo(6, `(?:! )?`+nameForm+` `+inBrackets(sideForm+`|_`)) + `)((?: \+ ` + upTo(6, sideForm+` [=#<] `+sideForm) + `)?) -> (` + upTo(6, `assert `+termsForm+`|drop [0-7]|task `+termsForm+`(?: undo `+nameForm+`)?|timer [0-9]+ `+termsForm+`|done|fail`) + `) \.\z`)
	onePat    = regexp.MustCompile(`(! )?` + nameForm + ` \([^()]*\)`)
	oneVar    = regexp.MustCompile(`[A-Z][A-Za-z0-9_]*`)
	oneDrop   = regexp.MustCompile(`drop [0-7]`)
	oneTimer  = regexp.MustCompile(`timer ([0-9]+)`)
)

// isRuleByForms tells of a rule's tokens, a blank between, whether they are those of a rule that is right, and its name.
func isRuleByForms(s string) (string, bool) {
	m := ruleForm.FindStringSubmatch(s)
	if m == nil {
		return "", false
	}
	sal, err := strconv.Atoi(strings.ReplaceAll(m[2], " ", ""))
	ok, count, nots := err == nil && sal >= -100 && sal <= 100, 0, 0
	bound := map[string]bool{}
	for _, p := range onePat.FindAllString(m[3], -1) {
		if p[0] == '!' {
			nots++
			continue
		}
		count, ok = count+1, ok && nots == 0
		for _, v := range oneVar.FindAllString(p, -1) {
			bound[v] = true
		}
	}
	for _, v := range oneVar.FindAllString(m[4]+" "+m[5], -1) {
		ok = ok && bound[v]
	}
	for _, drop := range oneDrop.FindAllString(m[5], -1) {
		ok = ok && int(drop[5]-'0') < count
	}
	for _, timer := range oneTimer.FindAllStringSubmatch(m[5], -1) {
		n, err := strconv.Atoi(timer[1])
		ok = ok && err == nil && n <= 100000
	}
	return m[1], ok && count >= 1 && count <= 3
}

// isDefByForms tells whether these tokens are those of a definition's text, by other means.
func isDefByForms(l []impl.Token) bool {
	pieces := strings.SplitAfter(impl.JoinTokens(l), " .")
	rules := pieces[1:]
	if len(rules) < 2 || len(rules) > 13 || rules[len(rules)-1] != "" || !regexp.MustCompile(`\Adef `+nameForm+` \.\z`).MatchString(pieces[0]) {
		return false
	}
	names := map[string]bool{}
	for _, s := range rules[:len(rules)-1] {
		name, ok := isRuleByForms(strings.TrimPrefix(s, " "))
		if !ok || names[name] {
			return false
		}
		names[name] = true
	}
	return true
}

// checkByForms tells whether a text is read, which it is just if it has the tokens of some definition's text.
func checkByForms(t *testing.T, s string) bool {
	t.Helper()
	l, place := lexByForms(s)
	want := place == -1 && isDefByForms(l)
	d, ok := impl.ParseDef(s)
	if ok != want {
		t.Fatalf("%q: %v %v", s, ok, d)
	}
	if !ok && !alikeDefs(d, impl.Def{}) {
		t.Fatalf("%q: false, and %v", s, d)
	}
	if again, place := lexByForms(impl.DefText(d)); ok && (place != -1 || !slices.Equal(again, l) || !impl.DefOk(d)) {
		t.Fatalf("%q: %v has %q", s, d, impl.DefText(d))
	}
	return ok
}

// Each token of a good text left out, put twice, put in another's place, moved, and another one put in its place or ahead of it.
func TestEachTokenOfAGoodTextElsewhere(t *testing.T) {
	others := append(goodTokens(), kname("undo"), kname("done"), kname("drop"), kname("task"), kname("assert"), kname("timer"), kname("def"), kvar("X"), kvar("Y"), kint(100001), kint(101))
	read := 0
	check := func(pieces ...[]impl.Token) {
		if checkByForms(t, impl.JoinTokens(slices.Concat(pieces...))) {
			read++
		}
	}
	for _, text := range shortTexts() {
		l := tokensOf(text)
		check(l)
		for i := range l {
			check(l[:i], l[i+1:])
			check(l[:i+1], l[i:])
			check(l[:i])
			check(l[i:])
			for k := range l {
				put := slices.Clone(l)
				put[k] = l[i]
				check(put)
				put[i] = l[k]
				check(put)
				check(slices.Insert(slices.Delete(slices.Clone(l), i, i+1), min(k, len(l)-1), l[i]))
			}
			for _, x := range others {
				check(l[:i], tokens(x), l[i+1:])
				check(l[:i], tokens(x), l[i:])
			}
		}
		for _, x := range others {
			check(l, tokens(x))
		}
	}
	if read < 1000 {
		t.Error(read)
	}
}

// Each byte put into a good text, at each place.
func TestEachByteWithinAGoodText(t *testing.T) {
	for _, text := range []string{"def d.rule r-5:a(X,'b')+X<2->drop 0.", "def d. rule r 0: !a(_) -> timer 7 t(X - 1)."} {
		for i := range len(text) + 1 {
			for c := range 256 {
				checkByForms(t, text[:i]+string([]byte{byte(c)})+text[i:])
				if i < len(text) {
					checkByForms(t, text[:i]+string([]byte{byte(c)})+text[i+1:])
				}
			}
		}
	}
}

// Good texts with some of their tokens left out, twice, swapped, or others in their place, and whatever blanks.
func TestManyTextsByForms(t *testing.T) {
	r := rand.New(rand.NewPCG(10, 10))
	pool := append(tokensOf(richText), goodTokens()...)
	gaps := []string{" ", " ", " ", "  ", "\n", "\t", "\r\n", "% r\n", ""}
	var texts []string
	for _, d := range append(goodDefs(), richDef(), richDef(), richDef()) {
		if text := impl.DefText(d); len(text) < 1500 {
			texts = append(texts, text)
		}
	}
	read := 0
	for range 6000 {
		l := tokensOf(texts[r.IntN(len(texts))])
		for range r.IntN(3) {
			i, k := r.IntN(len(l)), r.IntN(len(l))
			switch r.IntN(6) {
			case 0:
				l = slices.Delete(l, i, i+1)
			case 1:
				l = slices.Insert(l, i, l[k])
			case 2:
				l[i], l[k] = l[k], l[i]
			case 3:
				l[i] = pool[r.IntN(len(pool))]
			case 4:
				l[i] = l[k]
			case 5:
				l = slices.Insert(l, i, pool[r.IntN(len(pool))])
			}
		}
		var b strings.Builder
		for _, x := range l {
			b.WriteString(impl.TokenText(x) + gaps[r.IntN(len(gaps)-r.IntN(2))])
		}
		if checkByForms(t, b.String()) {
			read++
		}
	}
	if read < 500 || read > 5500 {
		t.Error(read)
	}
}

// eachList hands on each list within a value, with its spare room.
func eachList(v reflect.Value, check func(l reflect.Value)) {
	switch v.Kind() {
	case reflect.Struct:
		for i := range v.NumField() {
			eachList(v.Field(i), check)
		}
	case reflect.Interface:
		eachList(v.Elem(), check)
	case reflect.Slice:
		check(v)
		for i := range v.Len() {
			eachList(v.Index(i), check)
		}
	}
}

// checkOwnLists wants that no two lists of all these answers lie in the same memory, and that nothing lies behind their ends.
func checkOwnLists(t *testing.T, why string, least int, answers ...any) {
	t.Helper()
	type room struct{ from, to uintptr }
	var rooms []room
	eachList(reflect.ValueOf(answers), func(l reflect.Value) {
		for i, all := l.Len(), l.Slice(0, l.Cap()); i < all.Len(); i++ {
			if !all.Index(i).IsZero() {
				t.Errorf("%s: %v lies behind %v", why, all.Index(i), l)
			}
		}
		if l.Cap() > 0 {
			rooms = append(rooms, room{l.Pointer(), l.Pointer() + uintptr(l.Cap())*l.Type().Elem().Size()})
		}
	})
	slices.SortFunc(rooms, func(a room, b room) int { return cmp.Compare(a.from, b.from) })
	for i := 1; i < len(rooms); i++ {
		if rooms[i-1].to > rooms[i].from {
			t.Errorf("%s: two lists share memory", why)
		}
	}
	if len(rooms) < least {
		t.Errorf("%s: %d lists", why, len(rooms))
	}
}

func TestListsOfParsedDefsShareNoMemory(t *testing.T) {
	for _, text := range []string{richText, shortTexts()[2], impl.DefText(wordDef("task")), impl.DefText(defOfTokens(3000))} {
		checkOwnLists(t, text[:min(20, len(text))], 10, mustParse(t, text), mustParse(t, text))
	}
}

// The text is not written to, and what is made of it stays when its bytes are others.
func TestParsedDefsShareNoTexts(t *testing.T) {
	for _, text := range append(shortTexts(), richText, impl.DefText(wordDef("undo")), "def d", richText+".", richText+"'") {
		in, turn := textOver(text)
		d, ok := impl.ParseDef(in)
		if in != text {
			t.Errorf("%q is written to", text)
		}
		turn()
		if want, wantOk := impl.ParseDef(text); ok != wantOk || !alikeDefs(d, want) {
			t.Errorf("%q: %v %v, not %v", text, ok, d, want)
		}
	}
}

// What is read hangs on the text alone, whatever was read ahead of it.
func TestParsedDefsHangOnTheirTextsAlone(t *testing.T) {
	texts := append(shortTexts(), richText, "", "def d", "def d. rule r -0: a() -> done.", ";", richText+richText)
	was := map[string]string{}
	for range 3 {
		for _, s := range texts {
			d, ok := impl.ParseDef(s)
			if told := fmt.Sprint(d, ok); was[s] == "" {
				was[s] = told
			} else if was[s] != told {
				t.Errorf("%q: %s, not %s", s, told, was[s])
			}
		}
		slices.Reverse(texts)
	}
}
