package tests

import (
	"fmt"
	"math"
	"regexp"
	"slices"
	"strconv"
	"strings"
	"testing"

	"loop.example/g00282/impl"
)

func pats(l ...impl.Pat) []impl.Pat { return l }

func acts(l ...impl.Act) []impl.Act { return l }

func rule(ps []impl.Pat, cs []impl.Cond, as ...impl.Act) impl.Rule {
	return impl.Rule{Name: "r", Pats: ps, Conds: cs, Acts: as}
}

// ruleOf is a right rule of these patterns, as long as they are right.
func ruleOf(ps ...impl.Pat) impl.Rule { return rule(ps, nil, impl.Act{Kind: impl.AcDone}) }

func named(name string, r impl.Rule) impl.Rule {
	r.Name = name
	return r
}

func urgent(sal int, r impl.Rule) impl.Rule {
	r.Sal = sal
	return r
}

// xyPats bind X and Y, and look for a Z that is bound to nothing.
func xyPats() []impl.Pat {
	return pats(pat("a", avar("X")), pat("b", avar("X"), avar("Y")), notPat("c", avar("Z"), avar("X")))
}

// allVarsPats bind all of goodVars and what goodActs speak of.
func allVarsPats() []impl.Pat {
	args := []impl.Arg{}
	for _, s := range append(goodVars(), "Y") {
		args = append(args, avar(s))
	}
	return pats(pat("a", args[:5]...), pat("b", args[5:10]...), pat("c", args[10:]...))
}

func pluses(n int) []impl.Pat { return slices.Repeat(pats(pat("a", avar("X"))), n) }

func nots(n int) []impl.Pat { return slices.Repeat(pats(notPat("b", avar("X"))), n) }

// goodRules are rules that may be.
func goodRules() []impl.Rule {
	x, y, one := avar("X"), avar("Y"), aval(num(1))
	done, less := impl.Act{Kind: impl.AcDone}, cond(impl.CLess, x, y)
	l := []impl.Rule{
		ruleOf(pat("a")), {Name: "r", Pats: pats(pat("a")), Conds: conds(), Acts: acts(done)}, named(twelve, ruleOf(pat("a"))), named("rule", ruleOf(pat("rule"))),
		urgent(-100, ruleOf(pat("a"))), urgent(-99, ruleOf(pat("a"))), urgent(-1, ruleOf(pat("a"))), urgent(99, ruleOf(pat("a"))), urgent(100, ruleOf(pat("a"))),
		ruleOf(pluses(3)...), ruleOf(append(pluses(1), nots(5)...)...), ruleOf(append(pluses(3), nots(3)...)...), ruleOf(append(pluses(1), notPat("a", x))...),
		rule(xyPats(), nil, impl.Act{Kind: impl.AcFail}), rule(xyPats(), conds(less), done), rule(xyPats(), slices.Repeat(conds(less), 6), slices.Repeat(acts(done), 6)...),
		rule(xyPats(), conds(less, cond(impl.COther, one, y), cond(impl.CSame, one, aval(txt("a")))), dropAct(0), dropAct(1), assertAct("n", plain(x), plus(y, one)), taskAct("u", "t", minus(one, x)), timerAct(7, "w", plain(y)), done),
		rule(pluses(1), nil, dropAct(0)), rule(pluses(1), nil, dropAct(0), dropAct(0)), rule(pluses(3), nil, dropAct(2), dropAct(1), dropAct(0)), rule(append(pluses(1), nots(5)...), conds(cond(impl.CSame, x, x)), dropAct(0), assertAct("b", plain(x))),
	}
	for _, p := range goodPats() {
		p.Not = false
		l = append(l, ruleOf(p), ruleOf(p, p, p))
		q := p
		q.Not = true
		l = append(l, ruleOf(p, q), ruleOf(pat("first"), q))
	}
	for _, a := range goodActs() {
		if a.Kind != impl.AcDrop || a.N < 3 {
			l = append(l, rule(allVarsPats(), nil, a), rule(allVarsPats(), conds(less), done, a))
		}
	}
	for _, a := range sides() {
		for _, op := range allOps() {
			l = append(l, rule(allVarsPats(), conds(cond(op, a, x), cond(op, y, a)), done))
		}
	}
	return l
}

// wrongRules are what is no rule, each with its reason; of each there is just one.
func wrongRules() map[string]impl.Rule {
	x, y, z, one := avar("X"), avar("Y"), avar("Z"), aval(num(1))
	done, less := impl.Act{Kind: impl.AcDone}, cond(impl.CLess, x, y)
	wrong := map[string]impl.Rule{
		"nothing": {}, "a name alone": {Name: "r"}, "no patterns": rule(nil, nil, done), "an empty list of patterns": rule(pats(), nil, done), "no acts": rule(pluses(1), nil), "an empty list of acts": rule(pluses(1), nil, acts()...), "no patterns, and no acts": rule(nil, nil),
		"conditions, and no acts":    rule(xyPats(), conds(less)),
		"the first one Not":          ruleOf(notPat("a")),
		"each one Not":               ruleOf(nots(6)...),
		"the first of two Not":       ruleOf(notPat("a"), pat("a")),
		"one behind one that is Not": ruleOf(pat("a"), notPat("b"), pat("a")),
		"the same behind it":         ruleOf(pat("a"), notPat("a"), pat("a")),
		"one behind five":            ruleOf(append(append(pluses(1), nots(4)...), pat("a"))...),
		"four that are not Not":      ruleOf(pluses(4)...),
		"four, and one that is Not":  ruleOf(append(pluses(4), nots(1)...)...),
		"six that are not Not":       ruleOf(pluses(6)...),
		"seven patterns":             ruleOf(append(pluses(1), nots(6)...)...),
		"three, and four that are":   ruleOf(append(pluses(3), nots(4)...)...),
		"many patterns":              ruleOf(append(pluses(1), nots(5000)...)...),
		"many that are not Not":      ruleOf(pluses(5000)...),
		"seven conditions":           rule(xyPats(), slices.Repeat(conds(less), 7), done),
		"many conditions":            rule(xyPats(), slices.Repeat(conds(less), 5000), done),
		"seven acts":                 rule(xyPats(), nil, slices.Repeat(acts(done), 7)...),
		"many acts":                  rule(xyPats(), nil, slices.Repeat(acts(done), 5000)...),
		"a drop of one that is Not":  rule(xyPats(), nil, dropAct(2)),
		"a drop of the second Not":   rule(append(xyPats(), notPat("d")), nil, dropAct(3)),
		"a drop behind them all":     rule(pluses(1), nil, dropAct(1)),
		"a drop of the 7th":          rule(append(pluses(3), nots(3)...), nil, dropAct(7)),
		"an unbound left side":       rule(xyPats(), conds(cond(impl.CSame, z, x)), done),
		"an unbound right side":      rule(xyPats(), conds(cond(impl.CSame, one, z)), done),
		"an unbound term":            rule(xyPats(), nil, assertAct("n", plain(z))),
		"an unbound summand":         rule(xyPats(), nil, taskAct("", "t", plain(x), plus(one, z))),
		"an unbound timer's term":    rule(xyPats(), nil, timerAct(5, "t", minus(z, one))),
		"a variable of no pattern":   rule(xyPats(), conds(cond(impl.COther, avar("Q"), one)), done),
		"a variable of its Not":      rule(pats(pat("a", aany()), notPat("b", x)), nil, assertAct("n", plain(x))),
	}
	for _, name := range []string{"", "A", "1a", "_", "a b", " a", "a ", "a:", "R", "\x00", "a\xff", "a\n", "\u00e4", twelve + "a", strings.Repeat("a", 5000)} {
		wrong["a name of "+name] = named(name, ruleOf(pat("a")))
	}
	for _, sal := range []int{-101, 101, -102, 102, -256, 256, 1 << 32, -1 << 32, 1<<32 + 5, impl.MaxInt, -impl.MaxInt, math.MinInt, math.MinInt + 1, math.MaxInt} {
		wrong["an urgency of "+strconv.Itoa(sal)] = urgent(sal, ruleOf(pat("a")))
	}
	return wrong
}

// checkRule wants of a rule that is none that its text is nothing.
func checkRule(t *testing.T, why string, want bool, r impl.Rule) {
	t.Helper()
	if ok, text := impl.RuleOk(r), impl.RuleText(r); ok != want || (text != "") != want {
		t.Errorf("%s: %v %q, %v", why, ok, text, r)
	}
}

func TestRuleOk(t *testing.T) { checkOks(t, impl.RuleOk, goodRules(), wrongRules()) }

// What keeps each of the wrong ones from being right is the one thing alone that its reason tells.
func TestWrongRulesTurnRight(t *testing.T) {
	wrong := wrongRules()
	for why, turn := range map[string]func(r *impl.Rule){
		"no patterns":                func(r *impl.Rule) { r.Pats = pluses(1) },
		"no acts":                    func(r *impl.Rule) { r.Acts = acts(dropAct(0)) },
		"the first one Not":          func(r *impl.Rule) { r.Pats[0].Not = false },
		"one behind one that is Not": func(r *impl.Rule) { r.Pats[2].Not = true },
		"four that are not Not":      func(r *impl.Rule) { r.Pats[3].Not = true },
		"seven patterns":             func(r *impl.Rule) { r.Pats = r.Pats[:6] },
		"seven conditions":           func(r *impl.Rule) { r.Conds = r.Conds[1:] },
		"seven acts":                 func(r *impl.Rule) { r.Acts = r.Acts[1:] },
		"a drop of one that is Not":  func(r *impl.Rule) { r.Pats[2].Not = false },
		"an unbound left side":       func(r *impl.Rule) { r.Pats[2].Not = false },
		"an unbound right side":      func(r *impl.Rule) { r.Pats[0].Args[0] = avar("Z"); r.Pats[1].Args[0] = avar("Z") },
		"an unbound term":            func(r *impl.Rule) { r.Acts[0].Args[0].L = avar("Y") },
		"a variable of its Not":      func(r *impl.Rule) { r.Pats[0].Args[0] = avar("X") },
		"a name of ":                 func(r *impl.Rule) { r.Name = "a" },
		"an urgency of 101":          func(r *impl.Rule) { r.Sal-- },
		"an urgency of -101":         func(r *impl.Rule) { r.Sal++ },
	} {
		r := wrong[why]
		checkRule(t, why, false, r)
		turn(&r)
		checkRule(t, why+", turned", true, r)
	}
}

func TestUrgencyOfRules(t *testing.T) {
	for sal := -300; sal <= 300; sal++ {
		r, want := urgent(sal, ruleOf(pat("a"))), ""
		if sal >= -100 && sal <= 100 {
			want = "rule r " + strconv.Itoa(sal) + ": a() -> done.\n"
		}
		if text := impl.RuleText(r); text != want || impl.RuleOk(r) != (want != "") {
			t.Errorf("%d: %q", sal, text)
		}
	}
}

func TestRuleNamesAreNames(t *testing.T) {
	for c := range 256 {
		for _, s := range []string{string([]byte{byte(c)}), "a" + string([]byte{byte(c)}), twelve[:11] + string([]byte{byte(c)}), twelve + string([]byte{byte(c)})} {
			checkRule(t, "a name", impl.NameOk(s), named(s, ruleOf(pat("a"))))
		}
	}
}

// Each order of up to eight patterns that are Not or are not.
func TestNotsStandBehind(t *testing.T) {
	right := regexp.MustCompile(`^\+{1,3}-*$`)
	for n := range 9 {
		for mask := range 1 << n {
			var ps []impl.Pat
			order := ""
			for i := range n {
				not := mask>>i&1 == 1
				ps = append(ps, impl.Pat{Kind: "k" + strconv.Itoa(i), Not: not})
				order += map[bool]string{false: "+", true: "-"}[not]
			}
			checkRule(t, order, n <= 6 && right.MatchString(order), ruleOf(ps...))
			if count := impl.PosCount(ruleOf(ps...)); count != strings.Count(order, "+") {
				t.Errorf("%s: %d", order, count)
			}
		}
	}
}

func TestNumbersOfConditionsAndActs(t *testing.T) {
	rowC := slices.Repeat(conds(cond(impl.CLess, avar("X"), avar("Y")), cond(impl.COther, avar("Y"), aval(num(1)))), 5)
	rowA := slices.Repeat(acts(dropAct(1), assertAct("n", plain(avar("X"))), impl.Act{Kind: impl.AcDone}), 3)
	for n := range 9 {
		for m := range 9 {
			checkRule(t, strconv.Itoa(n)+" conditions, "+strconv.Itoa(m)+" acts", n <= 6 && m >= 1 && m <= 6, rule(xyPats(), rowC[:n], rowA[:m]...))
		}
	}
}

// What lies behind the end of a list counts for nothing, right or wrong.
func TestWhatLiesBehindTheListsIsNotRead(t *testing.T) {
	right := goodRules()[16]
	if len(right.Pats) != 3 || len(right.Conds) != 3 || len(right.Acts) != 6 {
		t.Fatal(right)
	}
	text, vars, kinds := impl.RuleText(right), impl.PosVars(right), impl.KindsOf(right)
	for _, p := range pats(impl.Pat{}, pat("d", avar("Z")), notPat("d", avar("Z"))) {
		for _, c := range conds(impl.Cond{}, cond(impl.CSame, avar("Q"), avar("X")), right.Conds[0]) {
			for _, a := range acts(impl.Act{}, dropAct(7), right.Acts[0]) {
				r := right
				r.Pats = append(slices.Clone(r.Pats), p)[:3]
				r.Conds = append(slices.Clone(r.Conds), c)[:3]
				r.Acts = append(slices.Clone(r.Acts), a)[:6]
				checkRule(t, "what lies behind", true, r)
				if impl.RuleText(r) != text || impl.PosCount(r) != 2 || !slices.Equal(impl.PosVars(r), vars) || !slices.Equal(impl.KindsOf(r), kinds) {
					t.Errorf("%v behind %v: %q", p, r, impl.RuleText(r))
				}
			}
		}
	}
}

// A drop is of a pattern that is not Not, wherever among the acts it stands.
func TestDropsOfRules(t *testing.T) {
	other := impl.Act{Kind: impl.AcDone}
	for count := 1; count <= 3; count++ {
		for behind := range 7 - count {
			for n := -2; n <= 9; n++ {
				for size := 1; size <= 6; size++ {
					for at := range size {
						as := slices.Repeat(acts(other), size)
						as[at] = dropAct(n)
						why := fmt.Sprint(count, behind, "drop", n, "at", at)
						checkRule(t, why, 0 <= n && n < count, rule(append(pluses(count), nots(behind)...), nil, as...))
					}
				}
			}
		}
	}
	// One that names none is enough, beside those that name one.
	checkRule(t, "all of them", true, rule(pluses(3), nil, dropAct(0), dropAct(1), dropAct(2), dropAct(2), dropAct(1), dropAct(0)))
	checkRule(t, "one too great", false, rule(pluses(3), nil, dropAct(0), dropAct(1), dropAct(2), dropAct(3), dropAct(1), dropAct(0)))
}

// A vRow is patterns of a rule, and whether V is bound there.
type vRow struct {
	ps    []impl.Pat
	bound bool
}

// vRows are patterns that have V somewhere, by where they have it; each binds X and Y.
func vRows() map[string]vRow {
	v, x, y := avar("V"), avar("X"), avar("Y")
	rows := map[string]vRow{
		"in none":                        {pats(pat("a", x, y)), false},
		"in none, with one that is Not":  {xyPats(), false},
		"in one that is Not alone":       {pats(pat("a", x, y), notPat("b", v)), false},
		"in two that are Not":            {pats(pat("a", x, y), notPat("b", v), notPat("c", x, v)), false},
		"in the last of five Nots":       {append(append(pats(pat("a", x, y)), nots(4)...), notPat("c", v)), false},
		"in both":                        {pats(pat("a", x, y, v), notPat("b", v)), true},
		"in both, by one of three":       {pats(pat("a", x), pat("a", y), pat("a", v), notPat("b", x, v), notPat("b", v)), true},
		"in several":                     {pats(pat("a", v, x), pat("b", v), pat("c", y, v, v)), true},
		"twice in one":                   {pats(pat("a", v, x, v, y)), true},
		"as the kind and a text":         {pats(pat("v", x, y, aval(txt("v")))), false},
		"as anything":                    {pats(pat("a", x, y, aany()), notPat("a", aany())), false},
		"as others that begin so":        {pats(pat("a", x, y, avar("V1")), pat("a", avar("Vv"), avar("VV"), avar("V_"))), false},
		"as others that end so":          {pats(pat("a", x, y, avar("XV"), avar("YV"))), false},
		"behind others that begin so":    {pats(pat("a", x, y, avar("V1"), avar("V_"), v)), true},
		"in one that is not Not and Not": {pats(pat("a", x, v), pat("a", y), notPat("a", x, v)), true},
	}
	for at := range 3 {
		for place := range 5 {
			ps := slices.Repeat(pats(pat("k", x, y, x, y, x)), 3)
			ps[at] = pat("k", slices.Replace(slices.Clone(ps[at].Args), place, place+1, v)...)
			rows[fmt.Sprint("in pattern ", at, " at ", place)] = vRow{ps, true}
		}
	}
	return rows
}

func TestVariablesOfConditions(t *testing.T) {
	v, x, one := avar("V"), avar("X"), aval(num(1))
	for where, row := range vRows() {
		for _, op := range allOps() {
			for i, c := range conds(cond(op, v, x), cond(op, x, v), cond(op, v, one), cond(op, one, v), cond(op, v, v)) {
				for size := 1; size <= 6; size++ {
					for at := range size {
						cs := slices.Repeat(conds(cond(impl.CSame, x, avar("Y"))), size)
						cs[at] = c
						checkRule(t, fmt.Sprint(where, ", ", op, i, " at ", at, " of ", size), row.bound, rule(row.ps, cs, impl.Act{Kind: impl.AcDone}))
					}
				}
			}
		}
		checkRule(t, where, true, rule(row.ps, conds(cond(impl.CSame, x, avar("Y"))), impl.Act{Kind: impl.AcDone}))
	}
}

func TestVariablesOfActs(t *testing.T) {
	v, x, one := avar("V"), avar("X"), aval(num(1))
	for where, row := range vRows() {
		for word, of := range actsOf() {
			for i, e := range exprs(plain(v), plus(v, one), plus(one, v), minus(v, x), minus(x, v), plus(v, v)) {
				for place := range 5 {
					es := slices.Repeat(exprs(plain(x), plus(avar("Y"), x)), 3)[:5]
					es[place] = e
					for at := range 6 {
						as := slices.Repeat(acts(assertAct("n", plain(x)), dropAct(0)), 3)
						as[at] = of(es...)
						checkRule(t, fmt.Sprint(where, ", ", word, i, " at ", place, " of act ", at), row.bound, rule(row.ps, nil, as...))
					}
				}
			}
		}
	}
}

// What one condition or act has right does not make up for another one.
func TestOneUnboundVariableIsEnough(t *testing.T) {
	right, unbound := cond(impl.CSame, avar("X"), avar("Y")), cond(impl.CSame, avar("X"), avar("Z"))
	tell, tellUnbound := assertAct("n", plain(avar("X"))), assertAct("n", plain(avar("Z")))
	for i, cs := range [][]impl.Cond{nil, conds(right), conds(right, right), conds(unbound), conds(unbound, right), conds(right, unbound)} {
		for k, as := range [][]impl.Act{acts(tell), acts(tell, tell), acts(tellUnbound), acts(tellUnbound, tell), acts(tell, tellUnbound)} {
			checkRule(t, fmt.Sprint(i, k), i < 3 && k < 2, rule(xyPats(), cs, as...))
		}
	}
}

// Where a variable stands in a pattern that is wrong, the rule stays wrong, bound or not.
func TestWrongPatternsAtEachPlace(t *testing.T) {
	for why, p := range wrongPats() {
		for at := range 6 {
			ps := append(pluses(3), nots(3)...)
			ps[at] = impl.Pat{Kind: p.Kind, Args: p.Args, Not: at >= 3}
			checkRule(t, why+" at "+strconv.Itoa(at), false, ruleOf(ps...))
			ps[at].Not = !ps[at].Not
			checkRule(t, why+" at "+strconv.Itoa(at)+", out of order", false, ruleOf(ps...))
		}
		checkRule(t, why+" alone", false, ruleOf(impl.Pat{Kind: p.Kind, Args: p.Args}))
	}
}

func TestWrongConditionsAtEachPlace(t *testing.T) {
	for why, c := range wrongConds() {
		for at := range 6 {
			cs := slices.Repeat(conds(cond(impl.CLess, avar("X"), avar("X"))), 6)
			cs[at] = c
			checkRule(t, why+" at "+strconv.Itoa(at), false, rule(allVarsPats(), cs, impl.Act{Kind: impl.AcDone}))
		}
		checkRule(t, why+" alone", false, rule(allVarsPats(), conds(c), impl.Act{Kind: impl.AcDone}))
	}
}

func TestWrongActsAtEachPlace(t *testing.T) {
	ps := allVarsPats()
	for why, a := range wrongActs() {
		for at := range 6 {
			as := slices.Repeat(acts(dropAct(0)), 6)
			as[at] = a
			checkRule(t, why+" at "+strconv.Itoa(at), false, rule(ps, nil, as...))
		}
		checkRule(t, why+" alone", false, rule(ps, nil, a))
	}
}

// A variable that has more than its kind names is none, even if a pattern has the very same.
func TestArgumentsThatAreNoneAreNotBound(t *testing.T) {
	for why, a := range wrongArgs() {
		ps := pats(pat("a", avar("X"), a))
		checkRule(t, why+" in a condition", false, rule(ps, conds(cond(impl.CSame, a, a)), impl.Act{Kind: impl.AcDone}))
		checkRule(t, why+" in an act", false, rule(ps, nil, assertAct("n", plain(a))))
		checkRule(t, why+" in a pattern", false, rule(ps, conds(cond(impl.CSame, avar("X"), avar("X"))), impl.Act{Kind: impl.AcDone}))
	}
}

// A part of a rule, and what it asks of the rest.
type part[T any] struct {
	l     []T
	right bool
	binds string
	count int
	needs string
	drops int
}

func patParts() []part[impl.Pat] {
	x, y := avar("X"), avar("Y")
	return []part[impl.Pat]{
		{l: nil}, {l: pluses(1), right: true, binds: "X", count: 1}, {l: append(pluses(1), nots(1)...), right: true, binds: "X", count: 1}, {l: xyPats(), right: true, binds: "XY", count: 2}, {l: pats(pat("a", y, x), pat("b"), pat("c", y), notPat("d", avar("Z"))), right: true, binds: "XY", count: 3},
		{l: pats(pat("a")), right: true, count: 1}, {l: pats(pat("a", aany()), notPat("a", x, y)), right: true, count: 1}, {l: append(pluses(3), nots(3)...), right: true, binds: "X", count: 3},
		{l: nots(1)}, {l: append(nots(1), pluses(1)...), binds: "X", count: 1}, {l: append(xyPats(), pat("a")), binds: "XY", count: 3}, {l: pluses(4), binds: "X", count: 4}, {l: append(pluses(3), nots(4)...), binds: "X", count: 3}, {l: pats(pat("a", x, y), pat("A")), binds: "XY", count: 2}, {l: pats(pat("a", x, y), impl.Pat{Kind: "a", Args: []impl.Arg{{}}, Not: true}), binds: "XY", count: 1},
	}
}

func condParts() []part[impl.Cond] {
	x, y, z, one := avar("X"), avar("Y"), avar("Z"), aval(num(1))
	return []part[impl.Cond]{
		{right: true}, {l: conds(), right: true}, {l: conds(cond(impl.CSame, one, one)), right: true}, {l: conds(cond(impl.CLess, x, one)), right: true, needs: "X"}, {l: conds(cond(impl.CLess, x, x), cond(impl.COther, one, y)), right: true, needs: "XY"},
		{l: slices.Repeat(conds(cond(impl.CLess, one, y)), 6), right: true, needs: "Y"}, {l: slices.Repeat(conds(cond(impl.CLess, one, one)), 7)}, {l: conds(cond(impl.CSame, z, x)), right: true, needs: "XZ"}, {l: conds(cond(4, x, y))}, {l: conds(cond(impl.CSame, one, one), cond(impl.CSame, aany(), one))},
	}
}

func actParts() []part[impl.Act] {
	x, y, z, one := avar("X"), avar("Y"), avar("Z"), aval(num(1))
	return []part[impl.Act]{
		{}, {l: acts(impl.Act{Kind: impl.AcDone}), right: true}, {l: acts(impl.Act{Kind: impl.AcFail}, assertAct("n", plain(one))), right: true}, {l: acts(dropAct(0)), right: true, drops: 1}, {l: acts(dropAct(0), dropAct(1), dropAct(0)), right: true, drops: 2}, {l: slices.Repeat(acts(dropAct(2)), 6), right: true, drops: 3}, {l: slices.Repeat(acts(dropAct(0)), 7)},
		{l: acts(assertAct("n", plain(x))), right: true, needs: "X"}, {l: acts(dropAct(1), taskAct("u", "t", plus(one, y), minus(x, one))), right: true, needs: "XY", drops: 2}, {l: acts(timerAct(9, "t", minus(y, z))), right: true, needs: "YZ"}, {l: acts(dropAct(8))}, {l: acts(timerAct(100001, "t"))}, {l: acts(impl.Act{Kind: impl.AcDone}, impl.Act{})}, {l: acts(dropAct(3)), right: true, drops: 4},
	}
}

// textsJoined is what each part of a list has as its text, with a comma and a blank between.
func textsJoined[T any](l []T, textOf func(T) string) string {
	texts := []string{}
	for _, x := range l {
		texts = append(texts, textOf(x))
	}
	return strings.Join(texts, ", ")
}

func textByParts(r impl.Rule) string {
	sides := []string{textsJoined(r.Pats, impl.PatText), textsJoined(r.Conds, impl.CondText)}
	if len(r.Conds) == 0 {
		sides = sides[:1]
	}
	return fmt.Sprintf("rule %s %d: %s -> %s.\n", r.Name, r.Sal, strings.Join(sides, " + "), textsJoined(r.Acts, impl.ActText))
}

func TestRulesOfAllMixtures(t *testing.T) {
	for _, p := range patParts() {
		for _, c := range condParts() {
			for _, a := range actParts() {
				bound := strings.Trim(c.needs+a.needs, p.binds) == "" && a.drops <= p.count
				for _, name := range []string{"r", "A", twelve} {
					for _, sal := range []int{-101, -100, 0, 100, 101} {
						r := impl.Rule{Name: name, Sal: sal, Pats: p.l, Conds: c.l, Acts: a.l}
						right := p.right && c.right && a.right && bound && name != "A" && sal >= -100 && sal <= 100
						checkRule(t, "a mixture", right, r)
						if text := impl.RuleText(r); right && text != textByParts(r) {
							t.Errorf("%q, not %q", text, textByParts(r))
						}
						if vars := strings.Join(slices.Sorted(slices.Values(impl.PosVars(r))), ""); impl.PosCount(r) != p.count || vars != p.binds {
							t.Errorf("%v: %d %s", r, impl.PosCount(r), vars)
						}
					}
				}
			}
		}
	}
}

func TestRuleTexts(t *testing.T) {
	x, y, one := avar("X"), avar("Y"), aval(num(1))
	done, less := impl.Act{Kind: impl.AcDone}, cond(impl.CLess, x, y)
	checkTexts(t, impl.RuleText, map[string]impl.Rule{
		"rule r 0: a() -> done.\n": ruleOf(pat("a")), "rule r 0: a(X) -> fail.\n": rule(pluses(1), nil, impl.Act{Kind: impl.AcFail}), "rule rule 0: rule(_) -> done.\n": named("rule", ruleOf(pat("rule", aany()))),
		"rule r -100: a() -> done.\n": urgent(-100, ruleOf(pat("a"))), "rule r 100: a() -> done.\n": urgent(100, ruleOf(pat("a"))), "rule r -1: a() -> done.\n": urgent(-1, ruleOf(pat("a"))), "rule " + twelve + " 7: a() -> done.\n": named(twelve, urgent(7, ruleOf(pat("a")))),
		"rule r 0: a(X), a(X), a(X) -> done.\n":                                                              ruleOf(pluses(3)...),
		"rule r 0: a(), !a() -> done.\n":                                                                     ruleOf(pat("a"), notPat("a")),
		"rule r 0: a(X), !b(X), !b(X), !b(X), !b(X), !b(X) -> drop 0.\n":                                     rule(append(pluses(1), nots(5)...), nil, dropAct(0)),
		"rule r 0: a(X), b(X, Y), !c(Z, X) + X < Y -> done.\n":                                               rule(xyPats(), conds(less), done),
		"rule r 0: a(X), b(X, Y), !c(Z, X) + X < Y, 1 # Y -> drop 0, done.\n":                                rule(xyPats(), conds(less, cond(impl.COther, one, y)), dropAct(0), done),
		"rule r 0: a(X) + -1 = X, X = '' -> assert n(X + 1, -1 - X), task t(X) undo u, timer 60 w('a_1').\n": rule(pluses(1), conds(cond(impl.CSame, aval(num(-1)), x), cond(impl.CSame, x, aval(txt("")))), assertAct("n", plus(x, one), minus(aval(num(-1)), x)), taskAct("u", "t", plain(x)), timerAct(60, "w", plain(aval(txt("a_1"))))),
		"rule r 0: a('x', -5, _) -> done, done, done, done, done, done.\n":                                   rule(pats(pat("a", aval(txt("x")), aval(num(-5)), aany())), nil, slices.Repeat(acts(done), 6)...),
		"rule r 0: a(X) + X = X, X = X, X = X, X = X, X = X, X = X -> done.\n":                               rule(pluses(1), slices.Repeat(conds(cond(impl.CSame, x, x)), 6), done),
	}, wrongRules())
	for _, r := range goodRules() {
		if text := impl.RuleText(r); text != textByParts(r) {
			t.Errorf("%q, not %q", text, textByParts(r))
		}
	}
}

func TestTokensOfRuleTexts(t *testing.T) {
	r := urgent(-5, rule(xyPats(), conds(cond(impl.CLess, avar("X"), aval(num(-2)))), dropAct(1), taskAct("u", "t", plus(avar("Y"), aval(num(1))))))
	checkLex(t, impl.RuleText(r), kname("rule"), kname("r"), kmark("-"), kint(5), kmark(":"),
		kname("a"), kmark("("), kvar("X"), kmark(")"), kmark(","), kname("b"), kmark("("), kvar("X"), kmark(","), kvar("Y"), kmark(")"), kmark(","), kmark("!"), kname("c"), kmark("("), kvar("Z"), kmark(","), kvar("X"), kmark(")"),
		kmark("+"), kvar("X"), kmark("<"), kmark("-"), kint(2),
		kmark("->"), kname("drop"), kint(1), kmark(","), kname("task"), kname("t"), kmark("("), kvar("Y"), kmark("+"), kint(1), kmark(")"), kname("undo"), kname("u"), kmark("."))
	checkLex(t, impl.RuleText(urgent(100, ruleOf(pat("a")))), kname("rule"), kname("r"), kint(100), kmark(":"), kname("a"), kmark("("), kmark(")"), kmark("->"), kname("done"), kmark("."))
}

// No two unlike rules have one text.
func TestRuleTextsTellRulesApart(t *testing.T) {
	x, y := avar("X"), avar("Y")
	seen, count := map[string]bool{}, 0
	cs := conds(cond(impl.CSame, x, y), cond(impl.CSame, y, x), cond(impl.CLess, x, y))
	as := acts(dropAct(0), impl.Act{Kind: impl.AcDone}, assertAct("a", plain(x)))
	for _, more := range listsOf(pats(notPat("a"), notPat("a", x), notPat("a", avar("Z"))), 2) {
		for _, first := range [][]impl.Pat{pats(pat("a", x, y)), pats(pat("a", y, x)), pats(pat("a", x, y), pat("a")), pats(pat("a"), pat("a", x, y))} {
			for _, l := range listsOf(cs, 2) {
				for _, m := range listsOf(as, 2)[1:] {
					for sal := range 3 {
						for _, name := range []string{"a", "done"} {
							seen[impl.RuleText(impl.Rule{Name: name, Sal: sal - 1, Pats: slices.Concat(first, more), Conds: l, Acts: m})] = true
							count++
						}
					}
				}
			}
		}
	}
	if seen[""] || len(seen) != count {
		t.Error(len(seen), count)
	}
}

// What is asked of a rule is told of one that is not right, too.
func TestCountsAndVariablesAndKinds(t *testing.T) {
	w, x, y, z := avar("W"), avar("X"), avar("Y"), avar("Z")
	for _, c := range []struct {
		r     impl.Rule
		count int
		vars  []string
		kinds []string
	}{
		{impl.Rule{}, 0, nil, nil}, {impl.Rule{Name: "r", Pats: pats()}, 0, nil, nil}, {ruleOf(pat("a")), 1, nil, []string{"a"}}, {ruleOf(pat("a", x)), 1, []string{"X"}, []string{"a"}}, {ruleOf(pat("a", aany(), aval(num(1)), aval(txt("x")))), 1, nil, []string{"a"}},
		{rule(xyPats(), nil), 2, []string{"X", "Y"}, []string{"a", "b", "c"}},
		{ruleOf(pat("b", y, x), pat("a", x), pat("b", z, y, x)), 3, []string{"Y", "X", "Z"}, []string{"b", "a"}},
		{ruleOf(pat("b", y, y), pat("a", x, y), pat("a", w, x, w)), 3, []string{"Y", "X", "W"}, []string{"b", "a"}},
		{ruleOf(pat("a", x), notPat("a", y), notPat("b", z)), 1, []string{"X"}, []string{"a", "b"}},
		{ruleOf(pat("a", x), notPat("c", x), notPat("b"), notPat("c"), notPat("a"), notPat("d")), 1, []string{"X"}, []string{"a", "c", "b", "d"}},
		{ruleOf(pat("a"), pat("ab"), pat("a_"), notPat("aa"), notPat("a"), notPat("ab")), 3, nil, []string{"a", "ab", "a_", "aa"}},
		// None of these is right.
		{ruleOf(notPat("a", x)), 0, nil, []string{"a"}}, {ruleOf(nots(6)...), 0, nil, []string{"b"}},
		{ruleOf(notPat("a", x), pat("b", y, x)), 1, []string{"Y", "X"}, []string{"a", "b"}},
		{ruleOf(pat("c", w), notPat("b", z), pat("a", y), notPat("c"), pat("b", z, w)), 3, []string{"W", "Y", "Z"}, []string{"c", "b", "a"}},
		{ruleOf(pluses(7)...), 7, []string{"X"}, []string{"a"}}, {ruleOf(append(nots(300), pluses(500)...)...), 500, []string{"X"}, []string{"b", "a"}},
		{impl.Rule{Pats: pats(pat("", x), pat("A b", avar("x"), avar(""), x), impl.Pat{}, impl.Pat{Not: true}, notPat("\x00", y))}, 3, []string{"X", "x", ""}, []string{"", "A b", "\x00"}},
		{impl.Rule{Sal: 500, Pats: pats(pat("a", impl.Arg{K: impl.AVar, S: "X", V: num(1)}, impl.Arg{S: "Y"}, impl.Arg{K: 4, S: "Z"}, impl.Arg{K: impl.AAny, S: "V"}, impl.Arg{K: impl.AVal, S: "U"}, w))}, 1, []string{"X", "W"}, []string{"a"}},
		{rule(xyPats(), conds(cond(9, z, z)), assertAct("q", plain(z)), dropAct(7)), 2, []string{"X", "Y"}, []string{"a", "b", "c"}},
		{named("", rule(xyPats(), slices.Repeat(conds(cond(impl.CSame, z, z)), 9))), 2, []string{"X", "Y"}, []string{"a", "b", "c"}},
	} {
		if n := impl.PosCount(c.r); n != c.count {
			t.Errorf("%v: %d, not %d", c.r, n, c.count)
		}
		if vars := impl.PosVars(c.r); !slices.Equal(vars, c.vars) {
			t.Errorf("%v: %q, not %q", c.r, vars, c.vars)
		}
		if kinds := impl.KindsOf(c.r); !slices.Equal(kinds, c.kinds) {
			t.Errorf("%v: %q, not %q", c.r, kinds, c.kinds)
		}
	}
}

// The variables are those of one pattern behind the other, and an order of two patterns tells in which.
func TestPosVarsAreThoseOfThePatterns(t *testing.T) {
	args := []impl.Arg{avar("X"), avar("Y"), avar("Z"), aval(num(1)), aany()}
	few := listsOf(args, 2)
	for _, a := range few {
		for _, b := range few {
			for _, not := range []bool{false, true} {
				want, all := slices.Clone(a), pat("k", slices.Concat(a, b)...)
				if not {
					all = pat("k", want...)
				}
				r := ruleOf(pat("p", a...), impl.Pat{Kind: "q", Args: b, Not: not}, notPat("p", avar("Q")))
				if got := impl.PosVars(r); !slices.Equal(got, impl.VarsOf(all)) {
					t.Errorf("%v: %q, not %q", r, got, impl.VarsOf(all))
				}
				if kinds := impl.KindsOf(r); !slices.Equal(kinds, []string{"p", "q"}) {
					t.Errorf("%v: %q", r, kinds)
				}
			}
		}
	}
}

// Of what a rule binds, and of nothing else, its conditions may speak.
func TestWhatIsAmongPosVarsMayBeSpokenOf(t *testing.T) {
	for _, r := range goodRules() {
		for _, s := range append(goodVars(), "V", "W", "Y", "Q") {
			r.Conds = conds(cond(impl.COther, aval(num(1)), avar(s)))
			checkRule(t, s, slices.Contains(impl.PosVars(r), s), r)
		}
	}
}

// guardedRule is r with spare room behind each of its lists, and tells whether nobody wrote to any.
func guardedRule(r impl.Rule) (impl.Rule, func() bool) {
	var clean []func() bool
	var ps []impl.Pat
	for _, p := range r.Pats {
		q, unwritten := guardedPat(p)
		ps, clean = append(ps, q), append(clean, unwritten)
	}
	var as []impl.Act
	for _, a := range r.Acts {
		args, unwritten := guardedList(a.Args, plain(avar("Spare")))
		a.Args = args
		as, clean = append(as, a), append(clean, unwritten)
	}
	cs, unwritten := guardedList(r.Conds, cond(impl.CSame, avar("Spare"), avar("Spare")))
	ps, as, clean = append(ps, slices.Repeat(pats(pat("spare")), 4)...), append(as, slices.Repeat(acts(dropAct(6)), 4)...), append(clean, unwritten)
	was := fmt.Sprint(ps, as)
	return impl.Rule{Name: r.Name, Sal: r.Sal, Pats: ps[:len(r.Pats)], Conds: cs, Acts: as[:len(r.Acts)]}, func() bool {
		return fmt.Sprint(ps, as) == was && !slices.ContainsFunc(clean, func(unwritten func() bool) bool { return !unwritten() })
	}
}

func TestRulesWriteIntoNoArgument(t *testing.T) {
	for _, r := range append(goodRules(), inOrder(wrongRules())...) {
		given, clean := guardedRule(r)
		impl.RuleOk(given)
		impl.PosCount(given)
		impl.PosVars(given)
		impl.RuleText(given)
		impl.KindsOf(given)
		if !clean() {
			t.Errorf("%v", r)
		}
	}
}

func TestListsOfRulesShareNoMemory(t *testing.T) {
	for _, r := range append(goodRules(), inOrder(wrongRules())...) {
		given, clean := guardedRule(r)
		for _, listOf := range []func(impl.Rule) []string{impl.PosVars, impl.KindsOf} {
			one, two := listOf(given), listOf(given)
			want := slices.Clone(two)
			spare := one[:cap(one)]
			for i := range spare {
				if i >= len(one) && spare[i] != "" {
					t.Errorf("%v: %q behind the end", r, spare[i])
				}
				spare[i] = "No"
			}
			if !clean() || !slices.Equal(two, want) || !slices.Equal(listOf(given), want) {
				t.Errorf("%v: two answers share memory", r)
			}
		}
	}
}

// Texts have no memory in common with an argument either.
func TestRulesShareNoTexts(t *testing.T) {
	var turns []func()
	over := func(s string) string {
		text, turn := textOver(s)
		turns = append(turns, turn)
		return text
	}
	x, word := avar(over("Xyz")), aval(txt(over("word")))
	r := impl.Rule{Name: over("name"), Sal: 3, Pats: pats(pat(over("first"), x, avar(over("Only"))), pat(over("second"), word), notPat(over("third"), avar(over("Gone")))), Conds: conds(cond(impl.COther, x, word)), Acts: acts(taskAct(over("undoing"), over("task_one"), impl.Expr{Op: over("+"), L: x, R: x}))}
	sole := ruleOf(pat(over("k"), avar(over("Z"))))
	text, vars, kinds := impl.RuleText(r), impl.PosVars(r), impl.KindsOf(r)
	soleText, soleVars, soleKinds := impl.RuleText(sole), impl.PosVars(sole), impl.KindsOf(sole)
	for _, turn := range turns {
		turn()
	}
	if text != "rule name 3: first(Xyz, Only), second('word'), !third(Gone) + Xyz # 'word' -> task task_one(Xyz + Xyz) undo undoing.\n" || soleText != "rule r 0: k(Z) -> done.\n" {
		t.Errorf("%q %q", text, soleText)
	}
	if !slices.Equal(vars, []string{"Xyz", "Only"}) || !slices.Equal(kinds, []string{"first", "second", "third"}) || !slices.Equal(soleVars, []string{"Z"}) || !slices.Equal(soleKinds, []string{"k"}) {
		t.Errorf("%q %q %q %q", vars, kinds, soleVars, soleKinds)
	}
}
