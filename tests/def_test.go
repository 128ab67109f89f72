package tests

import (
	"fmt"
	"reflect"
	"slices"
	"strconv"
	"strings"
	"testing"

	"loop.example/g00282/impl"
)

func def(name string, rules ...impl.Rule) impl.Def { return impl.Def{Name: name, Rules: rules} }

// namedInRow are these rules with the names r0, r1 and so on, as no two may have one Name.
func namedInRow(rules ...impl.Rule) []impl.Rule {
	var l []impl.Rule
	for i, r := range rules {
		l = append(l, named("r"+strconv.Itoa(i), r))
	}
	return l
}

// shortRules are n right rules, no two of one Name.
func shortRules(n int) []impl.Rule {
	return namedInRow(slices.Repeat([]impl.Rule{ruleOf(pat("a"))}, n)...)
}

// richDef has something of all that a definition may have.
func richDef() impl.Def {
	x, y, one := avar("X"), avar("Y"), aval(num(1))
	first := impl.Rule{Name: "one", Sal: -7, Pats: xyPats(), Conds: conds(cond(impl.CLess, x, y), cond(impl.COther, aval(txt("a")), y), cond(impl.CSame, x, aval(num(-2)))),
		Acts: acts(assertAct("n", plus(x, one), plain(y)), taskAct("u", "t", minus(x, aval(num(-1)))), taskAct("", "t"), timerAct(60, "late", plain(aval(txt("b_1")))), dropAct(1), impl.Act{Kind: impl.AcDone})}
	second := rule(pats(pat("a", aany(), aval(num(-3)), aval(txt("")), x, x)), nil, impl.Act{Kind: impl.AcFail})
	return def("rich", first, urgent(100, named("two", second)))
}

const richText = "def rich.\nrule one -7: a(X), b(X, Y), !c(Z, X) + X < Y, 'a' # Y, X = -2 -> assert n(X + 1, Y), task t(X - -1) undo u, task t(), timer 60 late('b_1'), drop 1, done.\nrule two 100: a(_, -3, '', X, X) -> fail.\n"

// words are those that texts of definitions have for themselves.
func words() []string {
	return []string{"def", "rule", "assert", "drop", "task", "timer", "done", "fail", "undo"}
}

// wordDef has this word wherever a name may stand.
func wordDef(s string) impl.Def {
	x := plain(avar("X"))
	return def(s, named(s, rule(pats(pat(s, avar("X")), notPat(s)), nil, assertAct(s, x), taskAct(s, s), timerAct(5, s, x), taskAct("", s, x), dropAct(0))))
}

func goodDefs() []impl.Def {
	l := []impl.Def{def("d", shortRules(1)...), def("d", shortRules(2)...), def("z9_", shortRules(11)...), def(twelve, shortRules(12)...), def("d", named("d", ruleOf(pat("d")))), richDef()}
	for _, s := range words() {
		l = append(l, wordDef(s))
	}
	for rules := range slices.Chunk(goodRules(), 12) {
		l = append(l, def("d", rules[0]), def("e", namedInRow(rules...)...))
	}
	return l
}

// wrongNames are no names.
func wrongNames() []string {
	return []string{"", "A", "D", "1a", "_", "_d", "a b", " d", "d ", "d.", "dE", "-", "'d'", "\x00", "d\x00", "d\xff", "d\n", "\u00e4", twelve + "a", strings.Repeat("a", 5000)}
}

// wrongDefs are what is no definition, each with its reason.
func wrongDefs() map[string]impl.Def {
	one := ruleOf(pat("a"))
	wrong := map[string]impl.Def{
		"nothing": {}, "a name alone": {Name: "d"}, "an empty list of rules": {Name: "d", Rules: []impl.Rule{}}, "rules alone": {Rules: shortRules(3)},
		"13 rules": def("d", shortRules(13)...), "many rules": def("d", shortRules(5000)...), "13 of one Name": def("d", slices.Repeat([]impl.Rule{one}, 13)...),
		"two the same": def("d", one, one), "two unlike ones of one Name": def("d", one, rule(xyPats(), nil, dropAct(1))), "two of one Name, one of them more urgent": def("d", one, urgent(5, one)),
		"two of one Name, not next to each other": def("d", one, named("s", one), one), "12 of one Name": def("d", slices.Repeat([]impl.Rule{one}, 12)...),
		"nothing as its rule": def("d", impl.Rule{}), "nothing behind a rule": def("d", one, impl.Rule{}), "nothing ahead of a rule": def("d", impl.Rule{}, one),
	}
	for _, name := range wrongNames() {
		wrong["a name of "+name] = def(name, shortRules(2)...)
	}
	return wrong
}

// checkDef wants of a definition that is none that its text is nothing.
func checkDef(t *testing.T, why string, want bool, d impl.Def) {
	t.Helper()
	if ok, text := impl.DefOk(d), impl.DefText(d); ok != want || (text != "") != want {
		t.Errorf("%s: %v %.200q, %.200s", why, ok, text, fmt.Sprint(d))
	}
}

func TestDefOk(t *testing.T) {
	checkOks(t, impl.DefOk, goodDefs(), wrongDefs())
	for why, d := range wrongDefs() {
		checkDef(t, why, false, d)
	}
}

func TestNumbersOfRules(t *testing.T) {
	all := shortRules(40)
	for n := range 40 {
		checkDef(t, strconv.Itoa(n)+" rules", n >= 1 && n <= 12, def("d", all[:n]...))
	}
}

func TestDefNamesAreNames(t *testing.T) {
	for c := range 256 {
		for _, s := range []string{string([]byte{byte(c)}), "a" + string([]byte{byte(c)}), twelve[:11] + string([]byte{byte(c)}), twelve + string([]byte{byte(c)})} {
			checkDef(t, "a name", impl.NameOk(s), def(s, shortRules(1)...))
		}
	}
}

// Of each two places of each number of rules: they have one Name, or two.
func TestNoTwoRulesOfOneName(t *testing.T) {
	for n := 2; n <= 12; n++ {
		for i := range n {
			for k := range i {
				rules := shortRules(n)
				checkDef(t, "all apart", true, def("d", rules...))
				rules[i].Name = rules[k].Name
				checkDef(t, fmt.Sprint(k, " and ", i, " of ", n), false, def("d", rules...))
				rules[i].Name += "_"
				checkDef(t, "one goes on", true, def("d", rules...))
			}
		}
	}
}

func TestWrongRulesAtEachPlaceOfADef(t *testing.T) {
	for why, wrong := range wrongRules() {
		checkDef(t, why+" alone", false, def("d", wrong))
		for at := range 12 {
			rules := shortRules(12)
			rules[at] = wrong
			checkDef(t, why+" at "+strconv.Itoa(at), false, def("d", rules...))
			if at > 0 {
				checkDef(t, why+" as the last of "+strconv.Itoa(at+1), false, def("d", rules[:at+1]...))
			}
		}
	}
}

func TestDefTexts(t *testing.T) {
	checkTexts(t, impl.DefText, map[string]impl.Def{
		"def d.\nrule r 0: a() -> done.\n":                                             def("d", ruleOf(pat("a"))),
		"def d.\nrule r0 0: a() -> done.\nrule r1 0: a() -> done.\n":                   def("d", shortRules(2)...),
		"def d.\nrule r1 0: a() -> done.\nrule r0 0: a() -> done.\n":                   def("d", shortRules(2)[1], shortRules(2)[0]),
		"def " + twelve + ".\nrule " + twelve + " -100: " + twelve + "() -> done.\n":   def(twelve, urgent(-100, named(twelve, ruleOf(pat(twelve))))),
		"def d.\nrule r 0: a(X) + X = X, X = X -> drop 0, drop 0.\n":                   def("d", rule(pluses(1), conds(cond(impl.CSame, avar("X"), avar("X")), cond(impl.CSame, avar("X"), avar("X"))), dropAct(0), dropAct(0))),
		"def undo.\nrule undo 0: undo(X), !undo() -> " + undoActs + ", drop 0.\n":      wordDef("undo"),
		"def d.\nrule r 0: a(X), !b(X), !b(X), !b(X), !b(X), !b(X) -> fail, drop 0.\n": def("d", rule(append(pluses(1), nots(5)...), nil, impl.Act{Kind: impl.AcFail}, dropAct(0))),
		richText: richDef(),
	}, wrongDefs())
}

const undoActs = "assert undo(X), task undo() undo undo, timer 5 undo(X), task undo(X)"

// A definition's text has that of each rule behind its head, whatever the rules are.
func TestDefTextsAreThoseOfTheRules(t *testing.T) {
	for _, d := range goodDefs() {
		want := "def " + d.Name + ".\n"
		for _, r := range d.Rules {
			want += impl.RuleText(r)
		}
		if got := impl.DefText(d); got != want {
			t.Errorf("%q, not %q", got, want)
		}
	}
}

// What is asked of a definition that is not right, too: the first rule of that Name, whatever Names there are.
func TestRuleAt(t *testing.T) {
	for _, c := range []struct {
		names []string
		name  string
		want  int
	}{
		{nil, "r", -1}, {nil, "", -1}, {[]string{}, "", -1}, {[]string{"r"}, "r", 0}, {[]string{"r"}, "s", -1}, {[]string{"r"}, "", -1}, {[]string{"r"}, "d", -1},
		{[]string{"a", "b", "c"}, "a", 0}, {[]string{"a", "b", "c"}, "b", 1}, {[]string{"a", "b", "c"}, "c", 2}, {[]string{"a", "b", "c"}, "d", -1}, {[]string{"a", "b", "c"}, "ab", -1},
		{[]string{"ab", "a", "a_", "aa"}, "a", 1}, {[]string{"ab", "a", "a_", "aa"}, "aa", 3}, {[]string{"ab", "abc"}, "a", -1}, {[]string{"ab", "abc"}, "abcd", -1},
		{[]string{"b", "a", "a"}, "a", 1}, {[]string{"a", "b", "a"}, "a", 0}, {[]string{"a", "a", "b", "b"}, "b", 2}, {[]string{"b", "b"}, "a", -1},
		{[]string{"", "a", ""}, "", 0}, {[]string{"a", ""}, "", 1}, {[]string{"A b", "a\x00", "\xff"}, "\xff", 2}, {[]string{"a\x00", "a"}, "a", 1}, {[]string{"A"}, "a", -1},
	} {
		var rules []impl.Rule
		for i, name := range c.names {
			rules = append(rules, urgent(i, named(name, ruleOf(pat("a")))), impl.Rule{Name: "between"})
		}
		for _, d := range []impl.Def{def("d", rules...), def(c.name, rules...), {Rules: rules}} {
			want := 2 * c.want
			if c.want < 0 {
				want = -1
			}
			if got := impl.RuleAt(d, c.name); got != want {
				t.Errorf("%q in %q: %d, not %d", c.name, c.names, got, want)
			}
		}
	}
	many := def("d", shortRules(5000)...)
	for _, at := range []int{0, 11, 12, 13, 4999} {
		if got := impl.RuleAt(many, "r"+strconv.Itoa(at)); got != at {
			t.Errorf("%d: %d", at, got)
		}
	}
	if got := impl.RuleAt(def("d", many.Rules[:12]...), "r12"); got != -1 {
		t.Errorf("behind the end: %d", got)
	}
}

// sameParts holds two values against each other part by part, a list without elements and none being the same.
func sameParts(a reflect.Value, b reflect.Value) bool {
	switch a.Kind() {
	case reflect.Struct:
		for i := range a.NumField() {
			if !sameParts(a.Field(i), b.Field(i)) {
				return false
			}
		}
		return true
	case reflect.Slice:
		for i := range min(a.Len(), b.Len()) {
			if !sameParts(a.Index(i), b.Index(i)) {
				return false
			}
		}
		return a.Len() == b.Len()
	}
	return a.Equal(b)
}

func alikeDefs(a impl.Def, b impl.Def) bool {
	return sameParts(reflect.ValueOf(a), reflect.ValueOf(b))
}

// cloneDef has all its lists in memory of their own, and those without elements as none.
func cloneDef(d impl.Def) impl.Def {
	d.Rules = slices.Clone(d.Rules)
	for i, r := range d.Rules {
		r.Pats, r.Conds, r.Acts = slices.Clone(r.Pats), append([]impl.Cond(nil), r.Conds...), slices.Clone(r.Acts)
		for k := range r.Pats {
			r.Pats[k].Args = append([]impl.Arg(nil), r.Pats[k].Args...)
		}
		for k := range r.Acts {
			r.Acts[k].Args = append([]impl.Expr(nil), r.Acts[k].Args...)
		}
		d.Rules[i] = r
	}
	return d
}

func eachBend(d impl.Def, check func(where string, bent impl.Def)) { eachBendOf(d, cloneDef, check) }

// eachBendOf hands on d with one part alone bent: a number, a text or a flag that is another one, a list that is longer or shorter by one.
func eachBendOf[T any](d T, clone func(T) T, check func(where string, bent T)) {
	d = clone(d)
	var walk func(where string, v reflect.Value)
	walk = func(where string, v reflect.Value) {
		was := reflect.New(v.Type()).Elem()
		was.Set(v)
		try := func(how string, x any) {
			v.Set(reflect.ValueOf(x))
			check(where+how, clone(d))
			v.Set(was)
		}
		switch v.Kind() {
		case reflect.Struct:
			for i := range v.NumField() {
				walk(where+" "+v.Type().Field(i).Name, v.Field(i))
			}
		case reflect.Slice:
			try(" longer", reflect.Append(v.Slice3(0, v.Len(), v.Len()), reflect.Zero(v.Type().Elem())).Interface())
			for i := range v.Len() {
				try(" without "+strconv.Itoa(i), reflect.AppendSlice(v.Slice3(0, i, i), v.Slice(i+1, v.Len())).Interface())
				walk(where+" "+strconv.Itoa(i), v.Index(i))
			}
		case reflect.Int:
			try(" more", int(v.Int())+1)
			try(" less", int(v.Int())-1)
			try(" further", int(v.Int())+1<<32)
		case reflect.String:
			try(" goes on", v.String()+"a")
			try(" is another one", "b"+v.String())
		case reflect.Bool:
			try(" is not", !v.Bool())
		}
	}
	walk("", reflect.ValueOf(&d).Elem())
}

// fewDefs are definitions that are right and that are not, with something of each kind.
func fewDefs() []impl.Def {
	bare := def("", impl.Rule{Sal: 999, Pats: pats(impl.Pat{Not: true, Args: []impl.Arg{{K: 9, S: "s", V: impl.Val{K: 8, N: 7, S: "v"}}}}), Conds: conds(cond(7, aany(), impl.Arg{S: "\x00", V: num(3)})), Acts: acts(impl.Act{Kind: 9, Args: exprs(impl.Expr{Op: "*", R: aany()}), N: -5, Undo: "U"})}, impl.Rule{})
	return []impl.Def{{}, def("d"), def("d", shortRules(1)...), def("d", shortRules(3)...), richDef(), bare}
}

func TestSameDefOfEachPartBent(t *testing.T) {
	for _, d := range fewDefs() {
		count := 0
		eachBend(d, func(where string, bent impl.Def) {
			count++
			if impl.SameDef(d, bent) || impl.SameDef(bent, d) {
				t.Errorf("%s: %v is the same", where, bent)
			}
			if !impl.SameDef(bent, cloneDef(bent)) {
				t.Errorf("%s: %v is another one", where, bent)
			}
		})
		if !impl.SameDef(d, d) || !impl.SameDef(d, cloneDef(d)) || !impl.SameDef(cloneDef(d), d) || count < 3 {
			t.Errorf("%v, with %d bends", d, count)
		}
	}
}

// Each two of all that are bent, and of those that are not: they are the same just if all their parts are.
func TestSameDefOfEachTwo(t *testing.T) {
	all := append(goodDefs()[:20], inOrder(wrongDefs())...)
	for _, d := range fewDefs() {
		all = append(all, d)
		eachBend(d, func(_ string, bent impl.Def) { all = append(all, bent) })
	}
	for i, a := range all {
		for _, b := range all[max(0, i-300):] {
			if got, want := impl.SameDef(a, b), alikeDefs(a, b); got != want {
				t.Fatalf("%v and %v: %v", a, b, got)
			}
		}
	}
}

func TestSameDefOfListsInAnotherOrder(t *testing.T) {
	swaps := map[string]func(d *impl.Def){
		"rules":         func(d *impl.Def) { slices.Reverse(d.Rules) },
		"patterns":      func(d *impl.Def) { slices.Reverse(d.Rules[0].Pats) },
		"conditions":    func(d *impl.Def) { slices.Reverse(d.Rules[0].Conds) },
		"acts":          func(d *impl.Def) { slices.Reverse(d.Rules[0].Acts) },
		"arguments":     func(d *impl.Def) { slices.Reverse(d.Rules[1].Pats[0].Args) },
		"terms":         func(d *impl.Def) { slices.Reverse(d.Rules[0].Acts[0].Args) },
		"sides":         func(d *impl.Def) { c := &d.Rules[0].Conds[0]; c.L, c.R = c.R, c.L },
		"summands":      func(d *impl.Def) { e := &d.Rules[0].Acts[0].Args[0]; e.L, e.R = e.R, e.L },
		"two of a rule": func(d *impl.Def) { r := d.Rules; r[0].Pats, r[1].Pats = r[1].Pats, r[0].Pats },
	}
	for why, swap := range swaps {
		d := cloneDef(richDef())
		swap(&d)
		if impl.SameDef(d, richDef()) || impl.SameDef(richDef(), d) {
			t.Errorf("%s: the same", why)
		}
	}
}

// An empty list and none are the same, and nothing stands for a zero value at the end of a list.
func TestSameDefOfEmptyLists(t *testing.T) {
	empty := impl.Rule{Name: "r", Pats: pats(impl.Pat{Kind: "a", Args: []impl.Arg{}}), Conds: conds(), Acts: acts(impl.Act{Kind: impl.AcDone, Args: exprs()})}
	none := ruleOf(pat("a"))
	none.Pats[0].Args = nil
	if !impl.SameDef(def("d", empty), def("d", none)) || !impl.SameDef(def("d", none), def("d", empty)) {
		t.Error("a rule's lists")
	}
	if !impl.SameDef(impl.Def{Name: "d", Rules: []impl.Rule{}}, impl.Def{Name: "d"}) || !impl.SameDef(impl.Def{}, impl.Def{Rules: []impl.Rule{}}) {
		t.Error("no rules")
	}
	if impl.SameDef(def("d", none), def("d", none, impl.Rule{})) || impl.SameDef(impl.Def{}, def("", impl.Rule{})) {
		t.Error("a zero rule behind")
	}
}

// guardedDef is d with spare room behind each of its lists, and tells whether nobody wrote to any.
func guardedDef(d impl.Def) (impl.Def, func() bool) {
	var clean []func() bool
	var rules []impl.Rule
	for _, r := range d.Rules {
		given, unwritten := guardedRule(r)
		rules, clean = append(rules, given), append(clean, unwritten)
	}
	rules = append(rules, slices.Repeat([]impl.Rule{named("spare", ruleOf(pat("spare")))}, 4)...)
	was := fmt.Sprint(rules)
	return impl.Def{Name: d.Name, Rules: rules[:len(d.Rules)]}, func() bool {
		return fmt.Sprint(rules) == was && !slices.ContainsFunc(clean, func(unwritten func() bool) bool { return !unwritten() })
	}
}

// What lies behind a list is not read either, so what is told is the same with it.
func TestDefsWriteIntoNoArgument(t *testing.T) {
	for _, d := range append(append(goodDefs(), inOrder(wrongDefs())...), fewDefs()...) {
		if len(d.Rules) > 100 {
			continue
		}
		given, clean := guardedDef(d)
		other, cleanOther := guardedDef(d)
		ok, text := impl.DefOk(given), impl.DefText(given)
		if ok != impl.DefOk(d) || text != impl.DefText(d) || impl.RuleAt(given, "spare") != -1 || !impl.SameDef(given, other) {
			t.Errorf("%v: %v %q", d, ok, text)
		}
		if !clean() || !cleanOther() {
			t.Errorf("%v is written to", d)
		}
	}
}

func TestDefTextsShareNoMemory(t *testing.T) {
	var turns []func()
	over := func(s string) string {
		text, turn := textOver(s)
		turns = append(turns, turn)
		return text
	}
	x := avar(over("Xyz"))
	d := def(over("name"), named(over("first"), rule(pats(pat(over("kind"), x), notPat(over("other"), aval(txt(over("text"))))), conds(cond(impl.CSame, x, aval(txt(over("word"))))), taskAct(over("back"), over("ask"), impl.Expr{Op: over("+"), L: x, R: x}))))
	text := impl.DefText(d)
	for _, turn := range turns {
		turn()
	}
	if text != "def name.\nrule first 0: kind(Xyz), !other('text') + Xyz = 'word' -> task ask(Xyz + Xyz) undo back.\n" {
		t.Errorf("%q", text)
	}
}
