package tests

import (
	"fmt"
	"math"
	"math/rand/v2"
	"slices"
	"strconv"
	"strings"
	"testing"

	"loop.example/g00282/impl"
)

func match(rule int, ids ...int) impl.Match { return impl.Match{Rule: rule, Ids: ids} }

// known has these facts, with the Ids 1, 2 and so on.
func known(texts ...string) impl.Store {
	s := impl.Store{Next: len(texts) + 1}
	for i, text := range texts {
		f, ok := impl.ParseFact(text)
		if !ok {
			panic(text)
		}
		s.Items = append(s.Items, item(i+1, f))
	}
	return s
}

// withIds is s with other Ids.
func withIds(s impl.Store, ids ...int) impl.Store {
	out := cloneStore(s)
	for i, id := range ids {
		out.Items[i].Id, out.Next = id, id+1
	}
	return out
}

// ruleFrom is a rule of what its text has ahead of the acts.
func ruleFrom(t *testing.T, text string) impl.Rule {
	t.Helper()
	return mustParse(t, withPats(text)).Rules[0]
}

func bindsText(l []impl.Bind) string {
	text := ""
	for _, b := range l {
		text += " " + b.Name + "=" + impl.ValText(b.V)
	}
	return text
}

func matchText(m impl.Match) string { return fmt.Sprint(m.Rule, m.Ids) + bindsText(m.Binds) }

func matchTexts(l []impl.Match) []string {
	var texts []string
	for _, m := range l {
		texts = append(texts, matchText(m))
	}
	return texts
}

// parted are the patterns of a rule that are not Not, and those that are.
func parted(r impl.Rule) (plusses []impl.Pat, minuses []impl.Pat) {
	for _, p := range r.Pats {
		if p.Not {
			minuses = append(minuses, p)
		} else {
			plusses = append(plusses, p)
		}
	}
	return plusses, minuses
}

// boundAtOnce holds all facts of a row against all patterns as one fact against one pattern.
func boundAtOnce(ps []impl.Pat, row []impl.Item) ([]impl.Bind, bool) {
	p, f := pat("row"), fact("row")
	for i, x := range row {
		if ps[i].Kind != x.F.Kind || len(ps[i].Args) != len(x.F.Fields) {
			return nil, false
		}
		p.Args, f.Fields = append(p.Args, ps[i].Args...), append(f.Fields, x.F.Fields...)
	}
	if l, ok := matchAtOnce(p, f, nil); ok {
		return l, true
	}
	return nil, false
}

// blocking counts the items that stand in the way, each as often as there are patterns for it.
func blocking(minuses []impl.Pat, items []impl.Item, l []impl.Bind) int {
	count := 0
	for _, x := range items {
		for _, p := range minuses {
			if _, ok := matchAtOnce(p, x.F, l); ok {
				count++
			}
		}
	}
	return count
}

// eachRow counts through all rows of n items: the last place's item turns first, as the last digit of a number.
func eachRow(items []impl.Item, n int, check func(row []impl.Item, ids []int)) {
	rows := 1
	for range n {
		rows *= len(items)
	}
	for count := range rows {
		row, ids := make([]impl.Item, n), make([]int, n)
		for k := n - 1; k >= 0; k-- {
			row[k] = items[count%len(items)]
			ids[k] = row[k].Id
			count /= len(items)
		}
		check(row, ids)
	}
}

// matchesByCount looks at each row for itself.
func matchesByCount(r impl.Rule, s impl.Store) []impl.Match {
	var all []impl.Match
	plusses, minuses := parted(r)
	eachRow(s.Items, len(plusses), func(row []impl.Item, ids []int) {
		l, ok := boundAtOnce(plusses, row)
		if ok && blocking(minuses, s.Items, l) == 0 && !slices.ContainsFunc(r.Conds, func(c impl.Cond) bool { return !holdsByRows(c, l) }) {
			all = append(all, impl.Match{Ids: ids, Binds: l})
		}
	})
	return all
}

func alikeMatches(a impl.Match, b impl.Match) bool {
	return a.Rule == b.Rule && slices.Equal(a.Ids, b.Ids) && slices.Equal(a.Binds, b.Binds)
}

// checkByCount tells how many matches there are.
func checkByCount(t *testing.T, r impl.Rule, s impl.Store) int {
	t.Helper()
	want, got := matchesByCount(r, s), impl.MatchesOf(r, s)
	if !slices.EqualFunc(got, want, alikeMatches) {
		t.Fatalf("%q of %v: %q, not %q", impl.RuleText(r), s, matchTexts(got), matchTexts(want))
	}
	for i, m := range got {
		if l, ok := impl.BindsFor(r, s, m.Ids); !ok || !slices.Equal(l, m.Binds) || impl.Blocked(r, s, m.Binds) || !impl.HoldAll(r.Conds, m.Binds) {
			t.Errorf("%q of %v: %s, and %v %v", impl.RuleText(r), s, matchText(m), l, ok)
		}
		if i > 0 && (!impl.LessMatch(got[i-1], m) || impl.SameMatch(got[i-1], m)) {
			t.Errorf("%q of %v: %s ahead of %s", impl.RuleText(r), s, matchText(got[i-1]), matchText(m))
		}
	}
	return len(got)
}

// matchCase is a rule (as ruleFrom takes it), what is known, and all that matches.
type matchCase struct {
	rule string
	s    impl.Store
	want []string
}

func checkMatchCases(t *testing.T, cases []matchCase) {
	t.Helper()
	for _, c := range cases {
		r := ruleFrom(t, c.rule)
		if got := matchTexts(impl.MatchesOf(r, c.s)); !slices.Equal(got, c.want) {
			t.Errorf("%s of %v: %q, not %q", c.rule, c.s, got, c.want)
		}
		checkByCount(t, r, c.s)
	}
}

func TestMatchesOfOneToThreePatterns(t *testing.T) {
	s := known("a(1)", "b(2)", "a(2)", "c(2,1)", "b(1)")
	checkMatchCases(t, []matchCase{
		{"a(X)", s, []string{"0 [1] X=1", "0 [3] X=2"}},
		{"b(X)", s, []string{"0 [2] X=2", "0 [5] X=1"}},
		{"b(_)", s, []string{"0 [2]", "0 [5]"}},
		{"b(1)", s, []string{"0 [5]"}},
		{"c(X, Y)", s, []string{"0 [4] X=2 Y=1"}},
		{"a(X), b(Y)", s, []string{"0 [1 2] X=1 Y=2", "0 [1 5] X=1 Y=1", "0 [3 2] X=2 Y=2", "0 [3 5] X=2 Y=1"}},
		{"b(Y), a(X)", s, []string{"0 [2 1] Y=2 X=1", "0 [2 3] Y=2 X=2", "0 [5 1] Y=1 X=1", "0 [5 3] Y=1 X=2"}},
		{"a(X), b(X)", s, []string{"0 [1 5] X=1", "0 [3 2] X=2"}},
		{"a(1), b(_)", s, []string{"0 [1 2]", "0 [1 5]"}},
		{"c(X, Y), a(Y), b(X)", s, []string{"0 [4 1 2] X=2 Y=1"}},
		{"a(X), c(Y, X), b(Y)", s, []string{"0 [1 4 2] X=1 Y=2"}},
		{"b(Y), c(Y, X), a(X)", s, []string{"0 [2 4 1] Y=2 X=1"}},
		{"a(X), c(Y, X), b(X)", s, []string{"0 [1 4 5] X=1 Y=2"}},
		{"a(X), b(_), c(X, _)", s, []string{"0 [3 2 4] X=2", "0 [3 5 4] X=2"}},
		{"a(X), b(Y), c(Z, Z)", s, nil}, {"c(Z, Z), a(X), b(Y)", s, nil}, {"a(X), c(Z, Z), b(Y)", s, nil}, {"a(X), b(Y), a(3)", s, nil},
	})
}

// Each place of a row may have any item, that of another place too.
func TestTheSameItemTwice(t *testing.T) {
	one, two := known("a(1)"), known("a(1)", "a(2)")
	checkMatchCases(t, []matchCase{
		{"a(X), a(Y)", one, []string{"0 [1 1] X=1 Y=1"}}, {"a(X), a(X)", one, []string{"0 [1 1] X=1"}}, {"a(_), a(1)", one, []string{"0 [1 1]"}},
		{"a(X), a(Y), a(Z)", one, []string{"0 [1 1 1] X=1 Y=1 Z=1"}}, {"a(X), a(X), a(X)", one, []string{"0 [1 1 1] X=1"}},
		{"a(X), a(Y)", two, []string{"0 [1 1] X=1 Y=1", "0 [1 2] X=1 Y=2", "0 [2 1] X=2 Y=1", "0 [2 2] X=2 Y=2"}},
		{"a(X), a(X)", two, []string{"0 [1 1] X=1", "0 [2 2] X=2"}},
		{"a(X), a(Y) + X # Y", two, []string{"0 [1 2] X=1 Y=2", "0 [2 1] X=2 Y=1"}},
		{"a(X), a(Y) + X = Y", two, []string{"0 [1 1] X=1 Y=1", "0 [2 2] X=2 Y=2"}},
		{"a(X), a(X), a(X)", two, []string{"0 [1 1 1] X=1", "0 [2 2 2] X=2"}},
		{"a(X), a(Y), a(X)", two, []string{"0 [1 1 1] X=1 Y=1", "0 [1 2 1] X=1 Y=2", "0 [2 1 2] X=2 Y=1", "0 [2 2 2] X=2 Y=2"}},
		{"a(_), a(_), a(_)", two, []string{"0 [1 1 1]", "0 [1 1 2]", "0 [1 2 1]", "0 [1 2 2]", "0 [2 1 1]", "0 [2 1 2]", "0 [2 2 1]", "0 [2 2 2]"}},
		{"a(X), b(Y), a(X)", known("b(7)", "a(1)", "a(2)"), []string{"0 [2 1 2] X=1 Y=7", "0 [3 1 3] X=2 Y=7"}},
		{"e(X, Y), e(Y, X)", known("e(1,1)", "e(1,2)", "e(2,1)"), []string{"0 [1 1] X=1 Y=1", "0 [2 3] X=1 Y=2", "0 [3 2] X=2 Y=1"}},
	})
}

func TestVariablesThatAreThereTwice(t *testing.T) {
	s := known("e(1,1)", "e(1,2)", "e(2,2)", "e('1',1)", "e('','')")
	checkMatchCases(t, []matchCase{
		{"e(X, X)", s, []string{"0 [1] X=1", "0 [3] X=2", "0 [5] X=''"}},
		{"e(X, Y)", s, []string{"0 [1] X=1 Y=1", "0 [2] X=1 Y=2", "0 [3] X=2 Y=2", "0 [4] X='1' Y=1", "0 [5] X='' Y=''"}},
		{"e(X, Y), e(Y, 2)", s, []string{"0 [1 2] X=1 Y=1", "0 [2 3] X=1 Y=2", "0 [3 3] X=2 Y=2", "0 [4 2] X='1' Y=1"}},
		{"e(X, X), e(X, X)", s, []string{"0 [1 1] X=1", "0 [3 3] X=2", "0 [5 5] X=''"}},
		{"e(Y, X), e(X, X)", s, []string{"0 [1 1] Y=1 X=1", "0 [2 3] Y=1 X=2", "0 [3 3] Y=2 X=2", "0 [4 1] Y='1' X=1", "0 [5 5] Y='' X=''"}},
		{"e(_, _), e(1, 2)", s, []string{"0 [1 2]", "0 [2 2]", "0 [3 2]", "0 [4 2]", "0 [5 2]"}},
		{"e(X, 1), e(1, X)", s, []string{"0 [1 1] X=1"}},
		{"k(X, X, X, X, X)", known("k(1,1,1,1,2)", "k(2,1,1,1,1)", "k(3,3,3,3,3)"), []string{"0 [3] X=3"}},
	})
}

func TestPatternsThatAreNot(t *testing.T) {
	s := known("a(1)", "a(2)", "b(2)", "c(1,3)", "d(4,4)")
	ones, all := []string{"0 [1] X=1"}, []string{"0 [1] X=1", "0 [2] X=2"}
	checkMatchCases(t, []matchCase{
		{"a(X)", s, all}, {"a(X), !b(X)", s, ones}, {"a(X), !b(3)", s, all}, {"a(X), !b(2)", s, nil}, {"a(X), !b(_)", s, nil}, {"a(X), !n(X)", s, all}, {"a(X), !n()", s, all},
		// What is bound nowhere else stands for any value, but for one alone within a pattern.
		{"a(X), !b(Q)", s, nil}, {"a(X), !c(Q, X)", s, all}, {"a(X), !c(X, Q)", s, []string{"0 [2] X=2"}}, {"a(X), !c(Q, Q)", s, all}, {"a(X), !d(Q, Q)", s, nil}, {"a(X), !d(Q, R)", s, nil},
		{"a(X), !d(Q, X)", s, all}, {"a(X), !c(X, X)", s, all}, {"a(X), !c(_, 3)", s, nil}, {"a(X), !c(X, 3)", s, []string{"0 [2] X=2"}},
		// What one pattern that is Not has for it does not bind the next one's.
		{"a(X), !n(Q), !b(Q)", s, nil}, {"a(X), !b(Q), !n(Q)", s, nil}, {"a(X), !c(Q, 4), !b(Q)", s, nil},
		// It is enough that one of several blocks, wherever it stands.
		{"a(X), !b(X), !n(X), !c(2, X)", s, ones}, {"a(X), !n(X), !b(X), !c(2, X)", s, ones}, {"a(X), !n(X), !c(2, X), !b(X)", s, ones}, {"a(X), !c(2, X), !b(3), !n(), !n(X), !b(X)", s, ones},
		{"a(X), !b(X), !c(X, _)", s, nil}, {"a(X), !n(X), !b(3), !c(3, X)", s, all}, {"a(X), !b(X), !b(X), !b(X), !b(X), !b(X)", s, ones},
		// An item of the row itself may block.
		{"a(X), !a(X)", s, nil}, {"a(X), !a(_)", s, nil}, {"a(1), !a(2)", s, nil}, {"a(1), !a(1)", s, nil}, {"a(X), a(Y), !a(X)", s, nil}, {"a(X), !a(3)", s, all},
		{"a(X), a(Y), !b(Y)", s, []string{"0 [1 1] X=1 Y=1", "0 [2 1] X=2 Y=1"}},
		{"a(X), a(Y), !b(X)", s, []string{"0 [1 1] X=1 Y=1", "0 [1 2] X=1 Y=2"}},
		{"a(X), a(Y), a(Z), !b(X), !b(Y), !b(Z)", s, []string{"0 [1 1 1] X=1 Y=1 Z=1"}},
		{"a(X), c(X, Y), !d(Y, _)", s, []string{"0 [1 4] X=1 Y=3"}},
		{"c(X, Y), !a(Y)", s, []string{"0 [4] X=1 Y=3"}}, {"c(X, Y), !a(X)", s, nil},
	})
}

func TestConditionsOfMatches(t *testing.T) {
	s := known("a(1)", "a(2)", "a('1')", "b(2)")
	checkMatchCases(t, []matchCase{
		{"a(X) + X = 2", s, []string{"0 [2] X=2"}}, {"a(X) + X # 2", s, []string{"0 [1] X=1", "0 [3] X='1'"}}, {"a(X) + X < 2", s, []string{"0 [1] X=1"}}, {"a(X) + 2 < X", s, []string{"0 [3] X='1'"}},
		{"a(X) + X = X", s, []string{"0 [1] X=1", "0 [2] X=2", "0 [3] X='1'"}}, {"a(X) + X # X", s, nil}, {"a(X) + 1 = 2", s, nil}, {"a(X) + 1 < 2, X = '1'", s, []string{"0 [3] X='1'"}},
		{"a(X), b(Y) + X < Y", s, []string{"0 [1 4] X=1 Y=2"}}, {"a(X), b(Y) + Y < X", s, []string{"0 [3 4] X='1' Y=2"}}, {"a(X), b(Y) + X = Y", s, []string{"0 [2 4] X=2 Y=2"}},
		// Of several one that does not hold is enough.
		{"a(X) + X # 9, X = 2, X # 8", s, []string{"0 [2] X=2"}}, {"a(X) + X = 2, X # 9, X # 8", s, []string{"0 [2] X=2"}}, {"a(X) + X # 9, X # 8, X = 2", s, []string{"0 [2] X=2"}},
		{"a(X) + X # 1, X # 2, X # '1'", s, nil}, {"a(X) + X # 1, X # 2, X # 3, X # 4, X # 5, X # 6", s, []string{"0 [3] X='1'"}}, {"a(X) + X # 3, X # 4, X # 5, X # 6, X # 7, X = '1'", s, []string{"0 [3] X='1'"}},
		// Either is enough: a pattern that is Not, or a condition.
		{"a(X), !b(X) + X # '1'", s, []string{"0 [1] X=1"}}, {"a(X), !b(X) + X = 2", s, nil}, {"a(X), !b(7) + X = 2", s, []string{"0 [2] X=2"}},
	})
}

func TestWhatThereIsNoItemFor(t *testing.T) {
	s := known("a()", "a(1)", "a(1,1)", "a(1,1,1)", "a(1,1,1,1,1)", "aa(1)", "b(7)")
	checkMatchCases(t, []matchCase{
		{"a(X)", store(1), nil}, {"a(X), !b(X)", store(1), nil}, {"a()", store(mostNext), nil}, {"a(), a(), a()", store(1), nil},
		{"c()", s, nil}, {"c(X)", s, nil}, {"b()", s, nil}, {"b(X, Y)", s, nil}, {"b(8)", s, nil}, {"b('7')", s, nil}, {"a(_, _, _, _)", s, nil}, {"a_(X)", s, nil},
		{"a()", s, []string{"0 [1]"}}, {"a(X)", s, []string{"0 [2] X=1"}}, {"a(X, Y)", s, []string{"0 [3] X=1 Y=1"}}, {"a(_, X, _)", s, []string{"0 [4] X=1"}}, {"a(_, _, _, _, X)", s, []string{"0 [5] X=1"}}, {"aa(X)", s, []string{"0 [6] X=1"}},
		{"b(X), !a(_, _, _, _)", s, []string{"0 [7] X=7"}}, {"b(X), !a(_, _, _)", s, nil}, {"b(X), !b(), !b(_, _)", s, []string{"0 [7] X=7"}}, {"b(X), !a()", s, nil},
		{"a(), a(X), a(X, X)", s, []string{"0 [1 2 3] X=1"}}, {"a(X), c(X)", s, nil}, {"c(X), a(X)", s, nil},
	})
}

// Ids are those of the items, not their places, and rows stand by the first place, then the second, then the third.
func TestTheOrderOfRows(t *testing.T) {
	gaps := withIds(known("b(1)", "a(2)", "b(3)", "a(1)"), 3, 7, 500, 999998)
	checkMatchCases(t, []matchCase{
		{"a(X)", gaps, []string{"0 [7] X=2", "0 [999998] X=1"}},
		{"a(X), b(Y)", gaps, []string{"0 [7 3] X=2 Y=1", "0 [7 500] X=2 Y=3", "0 [999998 3] X=1 Y=1", "0 [999998 500] X=1 Y=3"}},
		{"b(Y), a(X)", gaps, []string{"0 [3 7] Y=1 X=2", "0 [3 999998] Y=1 X=1", "0 [500 7] Y=3 X=2", "0 [500 999998] Y=3 X=1"}},
		{"b(Y), a(X), b(Z) + Z # Y", gaps, []string{"0 [3 7 500] Y=1 X=2 Z=3", "0 [3 999998 500] Y=1 X=1 Z=3", "0 [500 7 3] Y=3 X=2 Z=1", "0 [500 999998 3] Y=3 X=1 Z=1"}},
		{"a(X), b(X)", gaps, []string{"0 [999998 3] X=1"}},
		{"a(X), !b(X)", gaps, []string{"0 [7] X=2"}},
		{"a(X), b(Y), a(Z) + X < Y, Z # X", gaps, []string{"0 [7 500 999998] X=2 Y=3 Z=1", "0 [999998 500 7] X=1 Y=3 Z=2"}},
	})
	if l := impl.MatchesOf(ruleFrom(t, "n(X)"), withIds(filled(1), mostNext-1)); len(l) != 1 || l[0].Ids[0] != mostNext-1 {
		t.Error(matchTexts(l))
	}
}

// What the acts are, how urgent a rule is and what it is named does not matter to what matches.
func TestTheActsDoNotMatterToMatches(t *testing.T) {
	s := known("a(1)", "b(1,2)", "b(2,2)", "c(2,2)")
	want := []string{"0 [1 2] X=1 Y=2"}
	for _, a := range goodActs() {
		if r := rule(xyPats(), nil, a); impl.RuleOk(r) {
			for _, r := range []impl.Rule{r, named(twelve, r), urgent(-100, r), urgent(100, r)} {
				if got := matchTexts(impl.MatchesOf(r, s)); !slices.Equal(got, want) {
					t.Errorf("%v: %q", r, got)
				}
			}
		}
	}
}

// smallRules are all rules of a few patterns, conditions and patterns that are Not.
func smallRules(check func(r impl.Rule)) {
	x, y, z := avar("X"), avar("Y"), avar("Z")
	few := pats(pat("a", x), pat("a", y), pat("b", x, y), pat("b", y, y), pat("a", aval(num(1))), pat("b", aany(), x))
	minuses := pats(notPat("a", y), notPat("b", x, z), notPat("b", z, z))
	cs := conds(cond(impl.CLess, x, y), cond(impl.COther, x, aval(num(2))))
	for _, ahead := range listsOf(few, 3) {
		for _, behind := range listsOf(minuses, 1) {
			for _, l := range listsOf(cs, 1) {
				if r := rule(append(slices.Clone(ahead), behind...), l, dropAct(0)); impl.RuleOk(r) {
					check(r)
				}
			}
		}
	}
}

func TestMatchesOfAllSmallRules(t *testing.T) {
	stores := []impl.Store{
		store(1), known("a(1)"), known("b(1,2)", "a(2)", "a(1)", "b(2,2)"), withIds(known("a(2)", "a(1)", "b(2,1)", "a(3)", "b(1,1)"), 2, 5, 6, 9, 12), known("b(3,3)", "a(1)", "b(1,3)", "a(3)", "c(1)", "a()"),
	}
	rules, matches, none := 0, 0, 0
	smallRules(func(r impl.Rule) {
		rules++
		for _, s := range stores {
			n := checkByCount(t, r, s)
			matches += n
			if n == 0 {
				none++
			}
		}
	})
	if rules < 2000 || matches < 3000 || none < 3000 || none > 12000 {
		t.Error(rules, matches, none)
	}
}

// rolledRule is a right rule with few variables and few values.
func rolledRule(roll *rand.Rand) impl.Rule {
	args := []impl.Arg{avar("X"), avar("Y"), avar("Z"), avar("X"), aany(), aval(num(1)), aval(txt("1"))}
	for {
		var r impl.Rule
		for i := range 1 + roll.IntN(6) {
			p := impl.Pat{Kind: []string{"a", "b"}[roll.IntN(2)], Not: i > 2 || i > 0 && roll.IntN(2) == 0}
			for range 1 + roll.IntN(2) {
				p.Args = append(p.Args, args[roll.IntN(len(args))])
			}
			r.Pats = append(r.Pats, p)
		}
		for range roll.IntN(3) {
			r.Conds = append(r.Conds, cond(1+roll.IntN(3), args[roll.IntN(4)], args[roll.IntN(len(args))]))
		}
		r.Name, r.Acts = "r", acts(dropAct(0))
		if impl.RuleOk(r) {
			return r
		}
	}
}

// rolledStore has some facts, and Ids with gaps.
func rolledStore(roll *rand.Rand, most int) impl.Store {
	vals := []impl.Val{num(1), num(2), txt("1"), num(3)}
	s := store(1)
	for range roll.IntN(most) {
		f := fact([]string{"a", "b"}[roll.IntN(2)])
		for range 1 + roll.IntN(2) {
			f.Fields = append(f.Fields, vals[roll.IntN(1+roll.IntN(len(vals)))])
		}
		s.Next += roll.IntN(2)
		s, _, _ = impl.Assert(s, f)
	}
	return s
}

func TestMatchesOfManyRules(t *testing.T) {
	roll := rand.New(rand.NewPCG(11, 1))
	some, none := 0, 0
	for range 6000 {
		r, s := rolledRule(roll), rolledStore(roll, 12)
		if checkByCount(t, r, s) > 0 {
			some++
		} else {
			none++
		}
	}
	if some < 1000 || none < 1000 {
		t.Error(some, none)
	}
}

func TestMatchesOfAFullStore(t *testing.T) {
	s := filled(40)
	l := impl.MatchesOf(ruleFrom(t, "n(X), n(Y), n(Z)"), s)
	if len(l) != 64000 {
		t.Fatal(len(l))
	}
	for i, m := range l {
		x, y, z := i/1600, i/40%40, i%40
		if !alikeMatches(m, impl.Match{Ids: []int{x + 1, y + 1, z + 1}, Binds: binds(bind("X", num(x)), bind("Y", num(y)), bind("Z", num(z)))}) {
			t.Fatalf("%d: %s", i, matchText(m))
		}
	}
	if l := impl.MatchesOf(ruleFrom(t, "n(X), n(Y), n(Z), !m(X), !m(Y), !n(40) + X # Y, Y # Z, X # Z"), s); len(l) != 40*39*38 {
		t.Error(len(l))
	}
	if l := impl.MatchesOf(ruleFrom(t, "n(X), n(Y), n(Z), !m(X), !m(Y), !n(39)"), s); len(l) != 0 {
		t.Error(len(l))
	}
	checkByCount(t, ruleFrom(t, "n(X), n(Y) + X < Y"), s)
}

// crowd has an item for each right fact, and for each pattern of wrong rules that a fact may match.
func crowd() impl.Store {
	return known("a()", "a(1)", "b(1)", "b(1,2)", "a(2)", "first()", "n(0)", "n(1)")
}

func TestMatchesOfWrongRules(t *testing.T) {
	matching := 0
	for why, r := range wrongRules() {
		if len(r.Pats) > 10 {
			r.Pats = slices.Clone(r.Pats[:10])
		}
		if impl.RuleOk(r) {
			t.Error(why)
		}
		for _, s := range append(goodStores(), crowd()) {
			if l := impl.MatchesOf(r, s); len(l) != 0 {
				t.Errorf("%s: %q", why, matchTexts(l))
			}
		}
		if plusses, _ := parted(r); len(plusses) < 5 && len(matchesByCount(r, crowd())) > 0 {
			matching++
		}
	}
	if matching < 30 {
		t.Error("too few would match:", matching)
	}
	for why, l := range map[string][]impl.Pat{"many that are not Not": pluses(5000), "many that are": append(pluses(1), nots(5000)...)} {
		if l := impl.MatchesOf(ruleOf(l...), crowd()); len(l) != 0 {
			t.Errorf("%s: %q", why, matchTexts(l))
		}
	}
}

func TestMatchesOfWrongStores(t *testing.T) {
	rules := []impl.Rule{ruleFrom(t, "a(X)"), ruleFrom(t, "b()"), ruleFrom(t, "n(X)"), ruleFrom(t, "n(X), n(Y)"), ruleFrom(t, "a(X), !c(X)")}
	all, matching := append(slices.Clone(rules), goodRules()[:40]...), 0
	for why, s := range wrongStores() {
		for _, r := range all {
			if l := impl.MatchesOf(r, s); len(l) != 0 {
				t.Errorf("%s: %q", why, matchTexts(l))
			}
			if l := impl.AllMatches(def("d", r), s); len(l) != 0 {
				t.Errorf("%s: %q", why, matchTexts(l))
			}
		}
		if slices.ContainsFunc(rules[:3], func(r impl.Rule) bool { return len(matchesByCount(r, s)) > 0 }) {
			matching++
		}
	}
	if matching < 30 {
		t.Error("too few would match:", matching)
	}
	if l := impl.MatchesOf(impl.Rule{}, impl.Store{}); len(l) != 0 {
		t.Error(l)
	}
}

// checkAllMatches wants of each rule what it has alone, with its place.
func checkAllMatches(t *testing.T, d impl.Def, s impl.Store) []impl.Match {
	t.Helper()
	var want []impl.Match
	for i, r := range d.Rules {
		for _, m := range matchesByCount(r, s) {
			m.Rule = i
			want = append(want, m)
		}
	}
	got := impl.AllMatches(d, s)
	if !slices.EqualFunc(got, want, alikeMatches) {
		t.Errorf("%v of %v: %q, not %q", d, s, matchTexts(got), matchTexts(want))
	}
	if !slices.IsSortedFunc(got, compareByLess) {
		t.Errorf("%v of %v: %q", d, s, matchTexts(got))
	}
	return got
}

// compareByLess tells no two apart that are the same.
func compareByLess(a impl.Match, b impl.Match) int {
	switch {
	case impl.LessMatch(a, b):
		return -1
	case impl.LessMatch(b, a):
		return 1
	}
	return 0
}

// Rules that match nothing, or the same, leave the others' places as they are.
func TestAllMatchesByTheRulesPlaces(t *testing.T) {
	s := known("b(1)", "a(1)", "a(2)")
	none, one, two := "none(X)", "b(X)", "a(X)"
	for _, c := range []struct {
		rules []string
		want  []string
	}{
		{[]string{two}, []string{"0 [2] X=1", "0 [3] X=2"}},
		{[]string{none}, nil}, {[]string{none, none, none}, nil},
		{[]string{one, none, two}, []string{"0 [1] X=1", "2 [2] X=1", "2 [3] X=2"}},
		{[]string{two, none, none, one}, []string{"0 [2] X=1", "0 [3] X=2", "3 [1] X=1"}},
		{[]string{none, one, none, none, two, none}, []string{"1 [1] X=1", "4 [2] X=1", "4 [3] X=2"}},
		{[]string{two, one, two}, []string{"0 [2] X=1", "0 [3] X=2", "1 [1] X=1", "2 [2] X=1", "2 [3] X=2"}},
		{[]string{"a(X), b(Y)", "a(X), !b(X)", "a(X), a(Y) + X < Y"}, []string{"0 [2 1] X=1 Y=1", "0 [3 1] X=2 Y=1", "1 [3] X=2", "2 [2 3] X=1 Y=2"}},
	} {
		var rules []impl.Rule
		for _, text := range c.rules {
			rules = append(rules, ruleFrom(t, text))
		}
		if got := matchTexts(checkAllMatches(t, def("d", namedInRow(rules...)...), s)); !slices.Equal(got, c.want) {
			t.Errorf("%q: %q, not %q", c.rules, got, c.want)
		}
	}
}

func TestAllMatchesOfManyDefs(t *testing.T) {
	roll := rand.New(rand.NewPCG(11, 2))
	for range 300 {
		var rules []impl.Rule
		for range 1 + roll.IntN(12) {
			rules = append(rules, rolledRule(roll))
		}
		checkAllMatches(t, def("d", namedInRow(rules...)...), rolledStore(roll, 9))
	}
	for _, d := range goodDefs() {
		for _, s := range append(goodStores()[:11], crowd()) {
			checkAllMatches(t, d, s)
		}
	}
}

// One thing that is not right is enough, and then the rules that are right have none either.
func TestAllMatchesOfWrongDefs(t *testing.T) {
	for why, d := range wrongDefs() {
		for _, s := range append(goodStores(), crowd()) {
			if l := impl.AllMatches(d, s); len(l) != 0 {
				t.Errorf("%s: %q", why, matchTexts(l))
			}
		}
	}
	for why, wrong := range wrongRules() {
		for at := range 3 {
			rules := shortRules(3)
			rules[at] = wrong
			if l := impl.AllMatches(def("d", rules...), crowd()); len(l) != 0 {
				t.Errorf("%s at %d: %q", why, at, matchTexts(l))
			}
		}
	}
	if l := impl.AllMatches(def("d", shortRules(12)...), crowd()); len(l) != 12 {
		t.Error(matchTexts(l))
	}
	if l := impl.AllMatches(def("d", shortRules(13)...), crowd()); len(l) != 0 {
		t.Error(matchTexts(l))
	}
}

func checkBindsFor(t *testing.T, r impl.Rule, s impl.Store, ids []int, want ...impl.Bind) {
	t.Helper()
	if l, ok := impl.BindsFor(r, s, ids); !ok || !slices.Equal(l, want) {
		t.Errorf("%v of %v, %v: %v %v, not %v", r, s, ids, l, ok, want)
	}
}

func checkBindsNothing(t *testing.T, r impl.Rule, s impl.Store, ids ...int) {
	t.Helper()
	if l, ok := impl.BindsFor(r, s, ids); ok || len(l) != 0 {
		t.Errorf("%v of %v, %v: %v %v", r, s, ids, l, ok)
	}
}

func TestBindsFor(t *testing.T) {
	s := withIds(known("a(1)", "b(1,2)", "a(2)", "b(2,'x')", "c()"), 2, 3, 5, 8, 9)
	x, y := bind("X", num(1)), bind("Y", num(2))
	one, two, three := ruleFrom(t, "a(X)"), ruleFrom(t, "a(X), b(X, Y)"), ruleFrom(t, "a(X), b(X, Y), a(Y)")
	checkBindsFor(t, one, s, []int{2}, x)
	checkBindsFor(t, one, s, []int{5}, bind("X", num(2)))
	checkBindsFor(t, two, s, []int{2, 3}, x, y)
	checkBindsFor(t, two, s, []int{5, 8}, bind("X", num(2)), bind("Y", txt("x")))
	checkBindsFor(t, three, s, []int{2, 3, 5}, x, y)
	checkBindsFor(t, ruleFrom(t, "c()"), s, []int{9})
	checkBindsFor(t, ruleFrom(t, "a(_), a(1)"), s, []int{5, 2})
	checkBindsFor(t, ruleFrom(t, "a(X), a(Y)"), s, []int{2, 2}, x, bind("Y", num(1)))
	checkBindsFor(t, ruleFrom(t, "a(X), a(X), a(X)"), s, []int{2, 2, 2}, x)
	checkBindsFor(t, ruleFrom(t, "b(X, Y), a(Z), a(X)"), s, []int{3, 5, 2}, x, y, bind("Z", num(2)))
	for _, ids := range [][]int{nil, {}, {2}, {2, 3, 5}, {2, 3, 3}, {3, 2}, {2, 2}, {3, 3}, {2, 4}, {4, 3}, {2, 0}, {0, 3}, {2, -3}, {2, 7}, {2, 10}, {2, math.MaxInt}, {math.MinInt, 3}, {2, 8}, {5, 3}, {2, 9}, {9, 3}, {5, 2}, {2, 5}} {
		checkBindsNothing(t, two, s, ids...)
	}
	for _, ids := range [][]int{nil, {3}, {9}, {1}, {4}, {0}, {-2}, {2, 2}, {2, 5}, {2, 3}, {2, 1}} {
		checkBindsNothing(t, one, s, ids...)
	}
	for _, ids := range [][]int{nil, {2}, {2, 3}, {2, 3, 2}, {2, 3, 3}, {2, 3, 8}, {2, 3, 1}, {2, 3, 5, 5}, {5, 3, 5}, {2, 8, 5}, {2, 5, 3}, {1, 3, 5}, {2, 1, 5}} {
		checkBindsNothing(t, three, s, ids...)
	}
	checkBindsNothing(t, ruleFrom(t, "a(X), a(X)"), s, 2, 5)
	checkBindsNothing(t, ruleFrom(t, "a(X), a(X), a(X)"), s, 2, 2, 5)
	checkBindsNothing(t, ruleFrom(t, "a(X), a(X), a(X)"), s, 5, 2, 2)
	for _, none := range []impl.Store{store(1), {}, store(9)} {
		for _, id := range []int{0, 1, 2} {
			checkBindsNothing(t, one, none, id)
		}
	}
}

// What lies behind the Ids is not read, and neither patterns that are Not nor conditions matter.
func TestBindsForAsksNoMoreThanTheRow(t *testing.T) {
	s := known("a(1)", "b(1)")
	ids := []int{1, 2, 3, 4}
	for _, text := range []string{"a(X), b(X)", "a(X), b(X), !a(X)", "a(X), b(X), !b(_), !a(_)", "a(X), b(X) + X = 2", "a(X), b(X), !b(1) + X # X, 1 = 2"} {
		r := ruleFrom(t, text)
		checkBindsFor(t, r, s, ids[:2], bind("X", num(1)))
		checkBindsNothing(t, r, s, ids[:1]...)
		checkBindsNothing(t, r, s, ids[:3]...)
		if blocked := strings.Contains(text, "!"); impl.Blocked(r, s, binds(bind("X", num(1)))) != blocked {
			t.Errorf("%s: %v", text, !blocked)
		}
	}
	checkBindsFor(t, ruleFrom(t, "a(X)"), store(9, slices.Repeat([]impl.Item{item(4, fact("a", num(3)))}, 1)...), ids[3:], bind("X", num(3)))
	checkBindsNothing(t, ruleFrom(t, "a(X)"), impl.Store{Items: known("b(1)", "a(1)").Items[:1], Next: 3}, 2)
}

// checkBindsByCount goes through all rows, and through those with a place less and one more.
func checkBindsByCount(t *testing.T, r impl.Rule, s impl.Store) {
	t.Helper()
	plusses, _ := parted(r)
	eachRow(s.Items, len(plusses), func(row []impl.Item, ids []int) {
		if l, ok := boundAtOnce(plusses, row); ok {
			checkBindsFor(t, r, s, ids, l...)
		} else {
			checkBindsNothing(t, r, s, ids...)
		}
		checkBindsNothing(t, r, s, append(slices.Clone(ids), s.Items[0].Id)...)
		for at := range ids {
			checkBindsNothing(t, r, s, slices.Delete(slices.Clone(ids), at, at+1)...)
			other := slices.Clone(ids)
			other[at] = s.Next
			checkBindsNothing(t, r, s, other...)
		}
	})
}

func TestBindsForOfAllRows(t *testing.T) {
	roll := rand.New(rand.NewPCG(11, 3))
	for range 500 {
		if s := rolledStore(roll, 9); len(s.Items) > 0 {
			checkBindsByCount(t, rolledRule(roll), s)
		}
	}
}

// The chapter asks of a rule and of a store no more than it says, so what is not right is taken as it stands.
func TestBindsForOfWhatIsNotRight(t *testing.T) {
	x, y := avar("X"), avar("Y")
	s := known("a(1)", "b(1,2)")
	checkBindsFor(t, impl.Rule{}, s, nil)
	checkBindsFor(t, impl.Rule{}, impl.Store{}, []int{})
	checkBindsNothing(t, impl.Rule{}, s, 1)
	checkBindsFor(t, ruleOf(notPat("a", x)), s, nil)
	checkBindsNothing(t, ruleOf(notPat("a", x)), s, 1)
	checkBindsFor(t, ruleOf(notPat("a", x), pat("a", x), notPat("c"), pat("b", y, x)), known("a(2)", "b(1,2)"), []int{1, 2}, bind("X", num(2)), bind("Y", num(1)))
	checkBindsFor(t, impl.Rule{Pats: pats(pat("a", x))}, s, []int{1}, bind("X", num(1)))
	checkBindsFor(t, named("No name", urgent(500, rule(pats(pat("a", x)), conds(impl.Cond{}), dropAct(7)))), s, []int{1}, bind("X", num(1)))
	checkBindsFor(t, ruleOf(pluses(5)...), s, slices.Repeat([]int{1}, 5), bind("X", num(1)))
	checkBindsNothing(t, ruleOf(pluses(5)...), s, 1, 1, 1, 1)
	checkBindsNothing(t, ruleOf(pluses(5)...), s, 1, 1, 1, 1, 2)
	checkBindsFor(t, ruleOf(pluses(3000)...), s, slices.Repeat([]int{1}, 3000), bind("X", num(1)))
	checkBindsFor(t, ruleOf(pat("a", avar("")), pat("b", avar(""), avar("small"))), s, []int{1, 2}, bind("", num(1)), bind("small", num(2)))
	wrong := store(-4, item(5, fact("a", num(3))), item(5, fact("a", num(4))), item(-7, fact("b", num(3), impl.Val{})), item(0, impl.Fact{}), item(2, fact("a", num(3))))
	checkBindsFor(t, ruleFrom(t, "a(X), b(X, Y)"), wrong, []int{5, -7}, bind("X", num(3)), bind("Y", impl.Val{}))
	checkBindsFor(t, ruleFrom(t, "a(X), a(X)"), wrong, []int{2, 5}, bind("X", num(3)))
	checkBindsFor(t, ruleOf(impl.Pat{}), wrong, []int{0})
	// What is not there is no fact without a name either.
	checkBindsNothing(t, ruleOf(impl.Pat{}), wrong, 1)
	checkBindsNothing(t, ruleOf(impl.Pat{}), impl.Store{}, 0)
	checkBindsNothing(t, ruleFrom(t, "a(4)"), wrong, 5)
	for n, all := range []impl.Store{filled(41), filled(1000)} {
		last := len(all.Items)
		checkBindsFor(t, ruleFrom(t, "n(X), n(Y)"), all, []int{last, 1}, bind("X", num(last-1)), bind("Y", num(0)))
		checkBindsNothing(t, ruleFrom(t, "n(X)"), all, last+1+n)
	}
	for why, r := range wrongRules() {
		plusses, _ := parted(r)
		if len(plusses) > 0 && len(plusses) < 3 {
			for _, s := range []impl.Store{s, crowd(), wrong} {
				eachRow(s.Items, len(plusses), func(row []impl.Item, ids []int) {
					for i, id := range ids {
						row[i] = item(id, s.Items[slices.IndexFunc(s.Items, func(x impl.Item) bool { return x.Id == id })].F)
					}
					want, ok := boundAtOnce(plusses, row)
					if l, is := impl.BindsFor(r, s, ids); is != ok || !slices.Equal(l, want) {
						t.Errorf("%s, %v: %v %v, not %v %v", why, ids, l, is, want, ok)
					}
				})
			}
		}
	}
}

func checkBlocked(t *testing.T, want bool, r impl.Rule, s impl.Store, l []impl.Bind) {
	t.Helper()
	if got := impl.Blocked(r, s, l); got != want {
		t.Errorf("%v of %v, %v: %v", r, s, l, got)
	}
}

func TestBlocked(t *testing.T) {
	s := withIds(known("a(1)", "b(1,2)", "a(2)", "c(3,3)"), 2, 3, 5, 8)
	x1, x2, x9 := binds(bind("X", num(1))), binds(bind("X", num(2))), binds(bind("X", num(9)))
	for _, c := range []struct {
		text string
		l    []impl.Bind
		want bool
	}{
		{"a(X)", x1, false}, {"a(X)", nil, false}, {"a(X), !a(X)", x1, true}, {"a(X), !a(X)", x2, true}, {"a(X), !a(X)", x9, false}, {"a(X), !a(X)", nil, true},
		{"a(X), !b(X, _)", x1, true}, {"a(X), !b(X, _)", x2, false}, {"a(X), !b(_, X)", x1, false}, {"a(X), !b(_, X)", x2, true}, {"a(X), !b(X, X)", x1, false}, {"a(X), !b(X, X)", nil, false},
		{"a(X), !c(X, X)", nil, true}, {"a(X), !c(X, X)", x1, false}, {"a(X), !c(Q, Q)", x1, true}, {"a(X), !b(Q, Q)", x1, false}, {"a(X), !b(Q, R)", x1, true}, {"a(X), !b(Q, R)", binds(bind("R", num(1))), false}, {"a(X), !b(Q, R)", binds(bind("R", num(2)), bind("Q", num(1))), true},
		{"a(X), !b(2, 1), !c(1, 2), !b(X, 2)", x1, true}, {"a(X), !b(X, 2), !b(2, 1), !c(1, 2)", x1, true}, {"a(X), !b(2, 1), !b(X, 2), !c(1, 2)", x1, true}, {"a(X), !b(2, 1), !c(1, 2), !b(X, 2)", x2, false},
		{"a(X), !a(), !b(_), !c(_, _, _), !d(_, _)", nil, false}, {"a(X), !n(X), !a(Q), !b(Q, _)", binds(bind("Q", num(3))), false},
		// The first of one name counts.
		{"a(X), !a(X)", append(slices.Clone(x9), x1...), false}, {"a(X), !a(X)", append(slices.Clone(x1), x9...), true},
		// Conditions do not matter, nor whether the others match.
		{"a(X), !a(X) + X # X", x1, true}, {"n(X), !a(X)", x1, true}, {"n(X), !b(X, _)", x2, false}, {"a(X), !b(X, _) + X = X", x2, false},
	} {
		checkBlocked(t, c.want, ruleFrom(t, c.text), s, c.l)
	}
	for _, none := range []impl.Store{store(1), {}, {Items: s.Items[:0], Next: 5}} {
		checkBlocked(t, false, ruleFrom(t, "a(X), !a(_), !b(_, _), !c(_, _)"), none, nil)
	}
	// What lies behind the end of what is bound, or of the items, is not read.
	checkBlocked(t, false, ruleFrom(t, "a(X), !a(X)"), impl.Store{Items: s.Items[:2], Next: 9}, x2)
	checkBlocked(t, true, ruleFrom(t, "a(X), !c(X, Y)"), s, binds(bind("X", num(3)), bind("Y", num(4)))[:1])
}

func TestBlockedOfWhatIsNotRight(t *testing.T) {
	x := avar("X")
	s := known("a(1)", "b(1,2)")
	checkBlocked(t, false, impl.Rule{}, s, nil)
	checkBlocked(t, false, ruleOf(pluses(9)...), s, nil)
	checkBlocked(t, true, ruleOf(notPat("a", x)), s, nil)
	checkBlocked(t, true, ruleOf(notPat("a", x), pat("b", x, x)), s, nil)
	checkBlocked(t, false, ruleOf(notPat("a", x)), s, binds(bind("X", num(2))))
	checkBlocked(t, true, ruleOf(append(slices.Repeat(pats(notPat("c")), 3000), notPat("b", x, aany()))...), s, nil)
	checkBlocked(t, true, named("No name", urgent(500, rule(pats(notPat("a", x)), conds(impl.Cond{})))), s, nil)
	checkBlocked(t, true, ruleOf(impl.Pat{Not: true}), store(0, item(-3, impl.Fact{})), nil)
	checkBlocked(t, false, ruleOf(impl.Pat{Not: true}), s, nil)
	checkBlocked(t, true, ruleOf(notPat("", avar(""))), store(0, item(0, fact("", num(1)))), binds(bind("", num(1))))
	checkBlocked(t, false, ruleOf(notPat("", avar(""))), store(0, item(0, fact("", num(1)))), binds(bind("", num(2))))
	checkBlocked(t, true, ruleFrom(t, "n(X), !n(999)"), filled(1000), nil)
	twice := store(-1, item(1, fact("a", num(1))), item(1, fact("a", num(2))))
	checkBlocked(t, true, ruleFrom(t, "a(X), !a(2)"), twice, nil)
	for why, s := range wrongStores() {
		for _, x := range s.Items[:min(3, len(s.Items))] {
			p := impl.Pat{Kind: x.F.Kind, Not: true}
			for _, v := range x.F.Fields {
				p.Args = append(p.Args, aval(v))
			}
			if !impl.Blocked(ruleOf(pat("a"), p), s, nil) {
				t.Errorf("%s: %v does not block", why, x)
			}
			p.Args = append(p.Args, aany())
			if impl.Blocked(ruleOf(pat("a"), p), s, nil) != (blocking(pats(p), s.Items, nil) > 0) {
				t.Errorf("%s: %v", why, p)
			}
		}
	}
	for why, r := range wrongRules() {
		_, minuses := parted(r)
		for _, l := range boundAhead() {
			if got, want := impl.Blocked(r, crowd(), l), blocking(minuses, crowd().Items, l) > 0; got != want {
				t.Errorf("%s, %v: %v", why, l, got)
			}
		}
	}
}

// Of all that may be bound, with more and more items: what is blocked stays so.
func TestBlockedWithMoreItemsBlocksAllTheSame(t *testing.T) {
	roll := rand.New(rand.NewPCG(11, 4))
	turned, never := 0, 0
	for range 500 {
		r, all := rolledRule(roll), rolledStore(roll, 20)
		_, minuses := parted(r)
		for _, l := range boundAhead() {
			was := false
			for n := range len(all.Items) + 1 {
				s := impl.Store{Items: all.Items[:n], Next: all.Next}
				is := impl.Blocked(r, s, l)
				if was && !is || is != (blocking(minuses, s.Items, l) > 0) {
					t.Fatalf("%v, %v, %d items: %v", r, l, n, is)
				}
				if is && !was {
					turned++
				}
				was = is
			}
			if !was {
				never++
			}
		}
	}
	if turned < 1000 || never < 1000 {
		t.Error(turned, never)
	}
}

// A fact more takes away no row that is not blocked, and one less brings none back that does not match.
func TestMatchesAsFactsComeAndGo(t *testing.T) {
	s := known("a(1)", "a(2)")
	r := ruleFrom(t, "a(X), !b(X)")
	for _, step := range []struct {
		text string
		want []string
	}{
		{"b(1)", []string{"0 [2] X=2"}}, {"a(3)", []string{"0 [2] X=2", "0 [4] X=3"}}, {"b(2)", []string{"0 [4] X=3"}}, {"b(3)", nil},
	} {
		f, _ := impl.ParseFact(step.text)
		s, _, _ = impl.Assert(s, f)
		if got := matchTexts(impl.MatchesOf(r, s)); !slices.Equal(got, step.want) {
			t.Errorf("with %s: %q", step.text, got)
		}
	}
	for _, step := range []struct {
		id   int
		want []string
	}{
		{5, []string{"0 [2] X=2"}}, {1, []string{"0 [2] X=2"}}, {3, []string{"0 [2] X=2"}}, {6, []string{"0 [2] X=2", "0 [4] X=3"}}, {2, []string{"0 [4] X=3"}}, {4, nil},
	} {
		s, _ = impl.Retract(s, step.id)
		if got := matchTexts(impl.MatchesOf(r, s)); !slices.Equal(got, step.want) {
			t.Errorf("without %d: %q", step.id, got)
		}
	}
}

// matchesInOrder are matches, no two the same, each less than those behind it.
func matchesInOrder() []impl.Match {
	var l []impl.Match
	for _, rule := range []int{math.MinInt, -1, 0, 1, 2, 11, math.MaxInt} {
		for _, ids := range [][]int{nil, {math.MinInt}, {-1}, {0}, {1}, {2}, {10}, {math.MaxInt}, {-5, 7}, {1, 1}, {1, 2}, {1, 10}, {2, 1}, {2, 2}, {10, 0}, {0, 0, 0}, {1, 1, 1}, {1, 1, 2}, {1, 2, 1}, {2, 1, 1}, {0, 0, 0, 0}} {
			l = append(l, match(rule, ids...))
		}
	}
	return append(l, match(math.MaxInt, make([]int, 5000)...), match(math.MaxInt, append(make([]int, 4999), 1)...), match(math.MaxInt, make([]int, 5001)...))
}

func TestSameMatchAndLessMatch(t *testing.T) {
	l := matchesInOrder()
	for i, a := range l {
		for k, b := range l {
			// What is bound does not count.
			for _, bound := range [][]impl.Bind{nil, binds(bind("X", num(i)))} {
				x, y := a, match(b.Rule, slices.Clone(b.Ids)...)
				x.Binds, y.Binds = bound, binds(bind("X", num(k)), bind("Y", num(k)))
				same, less, more := impl.SameMatch(x, y), impl.LessMatch(x, y), impl.LessMatch(y, x)
				if same != (i == k) || less != (i < k) || more != (i > k) {
					t.Fatalf("%d and %d: %v %v %v", i, k, same, less, more)
				}
			}
		}
	}
}

func TestNoIdsAndNilAreTheSame(t *testing.T) {
	none, empty := impl.Match{Rule: 1}, impl.Match{Rule: 1, Ids: []int{}, Binds: []impl.Bind{}}
	if !impl.SameMatch(none, empty) || !impl.SameMatch(empty, none) || impl.LessMatch(none, empty) || impl.LessMatch(empty, none) {
		t.Error("of one rule")
	}
	if !impl.SameMatch(impl.Match{}, match(0)) || impl.SameMatch(none, match(1, 0)) || !impl.LessMatch(none, match(1, -1)) || impl.LessMatch(match(1, -1), empty) {
		t.Error("of none and of one Id")
	}
	ids := []int{1, 2, 3}
	if !impl.SameMatch(match(1, ids[:2]...), match(1, 1, 2)) || impl.SameMatch(match(1, ids[:2]...), match(1, ids...)) || !impl.LessMatch(match(1, ids[:2]...), match(1, 0, 0, 0)) {
		t.Error("what lies behind the end is read")
	}
}

// rulesAndStores are rules and stores, right and wrong, with Ids and with what is bound.
func rulesAndStores(t *testing.T, check func(r impl.Rule, s impl.Store, ids []int, l []impl.Bind)) {
	roll := rand.New(rand.NewPCG(11, 5))
	for range 300 {
		r, s := rolledRule(roll), rolledStore(roll, 12)
		plusses, _ := parted(r)
		l := impl.MatchesOf(r, s)
		for _, m := range append(l[:min(2, len(l))], match(0, slices.Repeat([]int{1}, len(plusses))...)) {
			check(r, s, m.Ids, boundAhead()[roll.IntN(len(boundAhead()))])
		}
	}
	for _, r := range inOrder(wrongRules()) {
		if len(r.Pats) < 100 {
			check(r, crowd(), []int{1}, nil)
		}
	}
	for _, s := range inOrder(wrongStores()) {
		check(ruleFrom(t, "a(X), a(Y), !b(X)"), s, []int{1, 1}, boundAhead()[2])
	}
	check(ruleFrom(t, "k(A, B, C, D, E), k(F, G, H, I, J), k(K, L, M, N, O), !k(A, B, C, D, P)"), known("k(1,2,3,4,5)", "k('a','b','','d',5)"), []int{1, 2, 1}, boundAhead()[5])
	check(ruleFrom(t, "n(X), n(Y), n(Z), !m(X)"), filled(8), []int{5, 2, 1}, boundAhead()[5])
}

func TestMatchesWriteIntoNoArgument(t *testing.T) {
	rulesAndStores(t, func(x impl.Rule, y impl.Store, ids []int, l []impl.Bind) {
		d, cleanDef := guardedDef(def("d", x, named("other", ruleOf(pat("a", avar("X"))))))
		s, cleanStore := guardedStore(y)
		row, cleanRow := guardedList(ids, 77)
		ahead, cleanAhead := guardedList(l, bind("Spare", num(77)))
		r := d.Rules[0]
		told := fmt.Sprint(impl.MatchesOf(r, s), impl.AllMatches(d, s))
		told += fmt.Sprint(impl.BindsFor(r, s, row))
		told += fmt.Sprint(impl.Blocked(r, s, ahead))
		m := impl.Match{Rule: 1, Ids: row, Binds: ahead}
		impl.SameMatch(m, m)
		impl.LessMatch(m, m)
		if !cleanDef() || !cleanStore() || !cleanRow() || !cleanAhead() {
			t.Errorf("%v, %v, %v, %v", x, y, ids, l)
		}
		again := fmt.Sprint(impl.MatchesOf(x, y), impl.AllMatches(def("d", x, named("other", ruleOf(pat("a", avar("X"))))), y))
		again += fmt.Sprint(impl.BindsFor(x, y, ids))
		again += fmt.Sprint(impl.Blocked(x, y, l))
		if told != again {
			t.Errorf("%v, %v, %v, %v: %s, then %s", x, y, ids, l, told, again)
		}
	})
}

// They share none with an argument either.
func TestListsOfMatchesShareNoMemory(t *testing.T) {
	count := 0
	rulesAndStores(t, func(r impl.Rule, s impl.Store, ids []int, l []impl.Bind) {
		d, s, ids := cloneDef(def("d", r, named("r2", r))), cloneStore(s), slices.Clone(ids)
		one, two := impl.MatchesOf(d.Rules[0], s), impl.AllMatches(d, s)
		three, _ := impl.BindsFor(d.Rules[0], s, ids)
		four, _ := impl.BindsFor(d.Rules[0], s, ids)
		count += len(two)
		checkOwnLists(t, impl.RuleText(r), len(one)+len(two), d, s, ids, one, two, three, four)
	})
	if count < 1000 {
		t.Error("too few match:", count)
	}
}

// Texts have no memory in common with an argument either.
func TestMatchesShareNoTexts(t *testing.T) {
	var turns []func()
	over := func(s string) string {
		text, turn := textOver(s)
		turns = append(turns, turn)
		return text
	}
	x, y, z := avar(over("Xyz")), avar(over("Yz")), avar(over("Zz"))
	r := ruleOf(pat(over("kind"), x, aval(txt(over("word")))), pat(over("kind"), y, z), notPat(over("other"), x))
	s := store(5, item(2, fact(over("kind"), txt(over("there")), txt(over("word")))), item(4, fact(over("other"), txt(over("where")))))
	one, all := impl.MatchesOf(r, s), impl.AllMatches(def("d", r), s)
	bound, ok := impl.BindsFor(r, s, []int{2, 2})
	for _, turn := range turns {
		turn()
	}
	want := " Xyz='there' Yz='there' Zz='word'"
	for _, l := range [][]impl.Match{one, all} {
		if got := matchTexts(l); !slices.Equal(got, []string{"0 [2 2]" + want}) {
			t.Errorf("%q", got)
		}
	}
	if !ok || bindsText(bound) != want {
		t.Errorf("%v %q", ok, bindsText(bound))
	}
}

// One rule's place is as good as another one's: what a definition has at its last is what it has at its first.
func TestMatchesAtEachPlaceOfADef(t *testing.T) {
	s := known("a(1)", "a(2)", "b(2)")
	for n := 1; n <= 12; n++ {
		for at := range n {
			rules := namedInRow(slices.Repeat([]impl.Rule{ruleFrom(t, "none()")}, n)...)
			rules[at] = named("here", ruleFrom(t, "a(X), !b(X)"))
			if got, want := matchTexts(impl.AllMatches(def("d", rules...), s)), strconv.Itoa(at)+" [1] X=1"; !slices.Equal(got, []string{want}) {
				t.Errorf("%q, not %q", got, want)
			}
		}
	}
}
