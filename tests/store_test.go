package tests

import (
	"fmt"
	"math"
	"slices"
	"testing"

	"loop.example/g00282/impl"
)

const mostNext = 1000000

func item(id int, f impl.Fact) impl.Item { return impl.Item{Id: id, F: f} }

func store(next int, items ...impl.Item) impl.Store { return impl.Store{Items: items, Next: next} }

func alikeItems(a impl.Item, b impl.Item) bool { return a.Id == b.Id && alike(a.F, b.F) }

func alikeStores(a impl.Store, b impl.Store) bool {
	return a.Next == b.Next && slices.EqualFunc(a.Items, b.Items, alikeItems)
}

func isZeroStore(s impl.Store) bool { return s.Next == 0 && len(s.Items) == 0 }

// cloneStore is told apart from what the program copies, so that a test does not hang on it.
func cloneStore(s impl.Store) impl.Store {
	out := impl.Store{Next: s.Next}
	for _, x := range s.Items {
		out.Items = append(out.Items, item(x.Id, fact(x.F.Kind, slices.Clone(x.F.Fields)...)))
	}
	return out
}

// filled has n items, n(0) as 1 and so on.
func filled(n int) impl.Store {
	s := impl.Store{Next: n + 1}
	for i := range n {
		s.Items = append(s.Items, item(i+1, fact("n", num(i))))
	}
	return s
}

// goodStores are stores that may be.
func goodStores() []impl.Store {
	all := impl.Store{Next: len(goodFacts())*3 + 1}
	for i, f := range slices.Backward(goodFacts()) {
		all.Items = append(all.Items, item((len(goodFacts())-i)*3, f))
	}
	return []impl.Store{
		store(1), store(2), store(mostNext - 1), store(mostNext), {Items: []impl.Item{}, Next: 1},
		store(2, item(1, fact("a"))), store(9, item(1, fact("a"))), store(9, item(8, fact("a", num(1)))),
		store(mostNext, item(mostNext-1, fact("a"))), store(mostNext, item(1, fact("b")), item(mostNext-1, fact("a"))),
		store(6, item(1, fact("b", num(1))), item(3, fact("a", num(1), txt("x"))), item(4, fact("a")), item(5, fact("b", txt("1")))),
		filled(1), filled(39), filled(40), all,
	}
}

// wrongStores are what is no store, each with its reason.
func wrongStores() map[string]impl.Store {
	a, b := fact("a", num(1)), fact("b")
	wrong := map[string]impl.Store{
		"nothing":                       {},
		"Next 0":                        store(0),
		"Next 0, an item":               store(0, item(1, a)),
		"Next -1":                       store(-1),
		"Next far below":                store(math.MinInt),
		"Next 1000001":                  store(mostNext + 1),
		"Next 1000001, an item":         store(mostNext+1, item(1, a)),
		"Next far beyond":               store(math.MaxInt, item(1, a)),
		"41 items":                      filled(41),
		"many items":                    filled(1000),
		"Id 0":                          store(3, item(0, a)),
		"Id 0 ahead of others":          store(3, item(0, a), item(1, b)),
		"Id -1":                         store(3, item(-1, a)),
		"Id far below":                  store(3, item(math.MinInt, a), item(1, b)),
		"Id Next":                       store(3, item(3, a)),
		"Id Next behind others":         store(3, item(1, a), item(3, b)),
		"Id beyond Next":                store(3, item(4, a)),
		"Id far beyond":                 store(mostNext, item(math.MaxInt, a)),
		"Id 1, Next 1":                  store(1, item(1, a)),
		"Id 1000000":                    store(mostNext, item(mostNext, a)),
		"Ids alike":                     store(3, item(1, a), item(1, b)),
		"Ids that descend":              store(3, item(2, a), item(1, b)),
		"Ids that descend behind":       store(5, item(1, a), item(3, b), item(2, fact("c"))),
		"one fact twice":                store(3, item(1, a), item(2, a)),
		"one fact twice, one between":   store(5, item(1, a), item(2, b), item(4, fact("a", num(1)))),
		"one fact without fields twice": store(3, item(1, b), item(2, impl.Fact{Kind: "b", Fields: []impl.Val{}})),
		"one item twice":                store(3, item(1, a), item(1, a)),
	}
	twice := filled(40)
	twice.Items[39].F = fact("n", num(0))
	wrong["the first fact at the end of 40"] = twice
	for why, f := range wrongFacts() {
		wrong["a wrong fact: "+why] = store(2, item(1, f))
		wrong["a wrong fact behind others: "+why] = store(4, item(1, a), item(2, b), item(3, f))
	}
	return wrong
}

func TestMaxItems(t *testing.T) {
	if impl.MaxItems != 40 {
		t.Error(impl.MaxItems)
	}
}

func TestStoreOk(t *testing.T) { checkOks(t, impl.StoreOk, goodStores(), wrongStores()) }

func TestStoresOfNoughtTo42Items(t *testing.T) {
	for n := range 43 {
		if s := filled(n); impl.StoreOk(s) != (n <= 40) {
			t.Errorf("%d items: %v", n, impl.StoreOk(s))
		}
	}
}

func TestStoresByNextAndId(t *testing.T) {
	edges := []int{math.MinInt, -1, 0, 1, 2, 3, mostNext - 2, mostNext - 1, mostNext, mostNext + 1, math.MaxInt}
	for _, next := range edges {
		right := 1 <= next && next <= mostNext
		if impl.StoreOk(store(next)) != right {
			t.Errorf("Next %d: %v", next, !right)
		}
		for _, id := range edges {
			want := right && 1 <= id && id < next
			if impl.StoreOk(store(next, item(id, fact("a")))) != want {
				t.Errorf("Next %d, Id %d: %v", next, id, !want)
			}
			for _, other := range edges {
				both := want && id < other && other < next
				if impl.StoreOk(store(next, item(id, fact("a")), item(other, fact("b")))) != both {
					t.Errorf("Next %d, Ids %d and %d: %v", next, id, other, !both)
				}
			}
		}
	}
}

func TestWhatLiesBehindTheItemsIsNotRead(t *testing.T) {
	a, b := fact("a"), fact("b")
	rows := []impl.Item{item(1, a), item(2, b), item(2, a), item(0, impl.Fact{})}
	s := impl.Store{Items: rows[:2], Next: 3}
	if !impl.StoreOk(s) || impl.IdOf(s, impl.Fact{}) != 0 || len(impl.OfKind(s, "a")) != 1 {
		t.Error(s)
	}
	if _, ok := impl.FactOf(s, 0); ok {
		t.Error("an item behind the end is found")
	}
	if _, ok := impl.FactOf(impl.Store{Items: rows[:1], Next: 3}, 2); ok {
		t.Error("an item behind the end is found")
	}
	if got, id, ok := impl.Assert(impl.Store{Items: rows[:1], Next: 3}, b); !ok || id != 3 || !alikeStores(got, store(4, item(1, a), item(3, b))) {
		t.Error(got, id, ok)
	}
}

func TestAssertOfWhatIsNew(t *testing.T) {
	for i, s := range goodStores() {
		f := fact("new_one", num(i), txt("x"))
		if len(s.Items) == 40 || s.Next == mostNext {
			if got, id, ok := impl.Assert(s, f); ok || id != 0 || !alikeStores(got, s) {
				t.Errorf("no room in %d: %v %d %v", i, got, id, ok)
			}
			continue
		}
		want := cloneStore(s)
		want.Items, want.Next = append(want.Items, item(s.Next, f)), s.Next+1
		if got, id, ok := impl.Assert(s, f); !ok || id != s.Next || !alikeStores(got, want) || !impl.StoreOk(got) {
			t.Errorf("%d: %v %d %v", i, got, id, ok)
		}
	}
}

// What is there is told with its Id and nothing changes, even where there is no room.
func TestAssertOfWhatIsThere(t *testing.T) {
	full := filled(40)
	full.Next = mostNext
	for i, s := range append(goodStores(), full) {
		for _, x := range s.Items {
			f := fact(x.F.Kind, slices.Clone(x.F.Fields)...)
			if got, id, ok := impl.Assert(s, f); !ok || id != x.Id || !alikeStores(got, s) {
				t.Errorf("%d, %v: %v %d %v", i, f, got, id, ok)
			}
		}
	}
}

func TestAssertOfEachFact(t *testing.T) {
	s := store(1)
	for i, f := range goodFacts() {
		after, id, ok := impl.Assert(s, f)
		if !ok || id != i+1 || len(after.Items) != i+1 || after.Next != i+2 || !alikeItems(after.Items[i], item(i+1, f)) {
			t.Fatalf("%v: %v %d %v", f, after, id, ok)
		}
		if again, id, ok := impl.Assert(after, f); !ok || id != i+1 || !alikeStores(again, after) {
			t.Fatalf("again, %v: %v %d %v", f, again, id, ok)
		}
		s = after
	}
	if !impl.StoreOk(s) {
		t.Error(s)
	}
}

// Facts that are nearly the same are two.
func TestAssertTellsFactsApart(t *testing.T) {
	for _, a := range goodFacts() {
		for _, b := range goodFacts() {
			s, one, _ := impl.Assert(store(1), a)
			s, two, ok := impl.Assert(s, b)
			if same := alike(a, b); !ok || one != 1 || same != (two == 1) || same != (len(s.Items) == 1) {
				t.Errorf("%v, %v: %v %d %v", a, b, s, two, ok)
			}
		}
	}
}

func TestAssertAtTheLimitOfItems(t *testing.T) {
	s, id, ok := impl.Assert(filled(39), fact("x"))
	if !ok || id != 40 || len(s.Items) != 40 || s.Next != 41 || !impl.StoreOk(s) {
		t.Error("with 39:", s, id, ok)
	}
	got, id, ok := impl.Assert(s, fact("y"))
	if ok || id != 0 || !alikeStores(got, s) {
		t.Error("with 40:", got, id, ok)
	}
	if got, id, ok := impl.Assert(s, fact("x")); !ok || id != 40 || !alikeStores(got, s) {
		t.Error("with 40, and it is there:", got, id, ok)
	}
	room, _ := impl.Retract(s, 7)
	if got, id, ok := impl.Assert(room, fact("y")); !ok || id != 41 || len(got.Items) != 40 || got.Next != 42 {
		t.Error("with room again:", got, id, ok)
	}
}

func TestAssertAtTheLimitOfIds(t *testing.T) {
	a, b := fact("a", num(1)), fact("b")
	s, id, ok := impl.Assert(store(mostNext-1, item(5, a)), b)
	if !ok || id != mostNext-1 || !alikeStores(s, store(mostNext, item(5, a), item(mostNext-1, b))) || !impl.StoreOk(s) {
		t.Error("Next 999999:", s, id, ok)
	}
	if got, id, ok := impl.Assert(s, fact("c")); ok || id != 0 || !alikeStores(got, s) {
		t.Error("Next 1000000:", got, id, ok)
	}
	if got, id, ok := impl.Assert(s, b); !ok || id != mostNext-1 || !alikeStores(got, s) {
		t.Error("Next 1000000, and it is there:", got, id, ok)
	}
	if got, id, ok := impl.Assert(store(mostNext), a); ok || id != 0 || !alikeStores(got, store(mostNext)) {
		t.Error("Next 1000000, without items:", got, id, ok)
	}
	gone, _ := impl.Retract(s, mostNext-1)
	if got, id, ok := impl.Assert(gone, b); ok || id != 0 || !alikeStores(got, gone) {
		t.Error("no Id comes back:", got, id, ok)
	}
}

func TestAssertRefuses(t *testing.T) {
	for why, s := range wrongStores() {
		facts := []impl.Fact{fact("new_one"), {}}
		for _, x := range s.Items[:min(2, len(s.Items))] {
			facts = append(facts, x.F)
		}
		for _, f := range facts {
			if got, id, ok := impl.Assert(s, f); ok || id != 0 || !alikeStores(got, s) {
				t.Errorf("%s: %v: %d %v", why, f, id, ok)
			}
		}
	}
	for why, f := range wrongFacts() {
		for i, s := range goodStores() {
			if got, id, ok := impl.Assert(s, f); ok || id != 0 || !alikeStores(got, s) {
				t.Errorf("%s, into %d: %v %d %v", why, i, got, id, ok)
			}
		}
	}
}

func TestRetract(t *testing.T) {
	for i, s := range goodStores() {
		for at, x := range s.Items {
			want := cloneStore(s)
			want.Items = slices.Delete(want.Items, at, at+1)
			got, ok := impl.Retract(s, x.Id)
			if !ok || !alikeStores(got, want) || !impl.StoreOk(got) {
				t.Fatalf("%d, Id %d: %v %v", i, x.Id, got, ok)
			}
			if _, there := impl.FactOf(got, x.Id); there || impl.IdOf(got, x.F) != 0 || slices.Contains(impl.OfKind(got, x.F.Kind), x.Id) {
				t.Errorf("%d, Id %d is not gone", i, x.Id)
			}
			if again, ok := impl.Retract(got, x.Id); ok || !isZeroStore(again) {
				t.Errorf("%d, Id %d: %v %v", i, x.Id, again, ok)
			}
		}
	}
}

func TestRetractRefuses(t *testing.T) {
	for i, s := range goodStores() {
		for _, id := range []int{math.MinInt, -1, 0, 2, 7, s.Next - 1, s.Next, s.Next + 1, mostNext, math.MaxInt} {
			there := slices.ContainsFunc(s.Items, func(x impl.Item) bool { return x.Id == id })
			if got, ok := impl.Retract(s, id); ok != there || !ok && !isZeroStore(got) {
				t.Errorf("%d, Id %d: %v %v", i, id, got, ok)
			}
		}
	}
	for why, s := range wrongStores() {
		ids := []int{0, 1, 2}
		for _, x := range s.Items {
			ids = append(ids, x.Id)
		}
		for _, id := range ids {
			if got, ok := impl.Retract(s, id); ok || !isZeroStore(got) {
				t.Errorf("%s, Id %d: %v %v", why, id, got, ok)
			}
		}
	}
}

func TestWhatComesAnewHasAnotherId(t *testing.T) {
	s := store(1)
	for round := range 100 {
		after, id, ok := impl.Assert(s, fact("a", txt("x")))
		if !ok || id != round+1 || len(after.Items) != 1 || after.Next != round+2 {
			t.Fatalf("round %d: %v %d %v", round, after, id, ok)
		}
		s, ok = impl.Retract(after, id)
		if !ok || !alikeStores(s, store(round+2)) {
			t.Fatalf("round %d: %v %v", round, s, ok)
		}
	}
	a, b := fact("a"), fact("b")
	s, _, _ = impl.Assert(store(1), a)
	s, _, _ = impl.Assert(s, b)
	s, _ = impl.Retract(s, 1)
	if s, id, ok := impl.Assert(s, a); !ok || id != 3 || !alikeStores(s, store(4, item(2, b), item(3, a))) {
		t.Error("behind the others:", s, id, ok)
	}
}

// Whatever comes and goes, the store has what a plain list of it has.
func TestManyFactsThatComeAndGo(t *testing.T) {
	seed := uint32(7)
	roll := func(n int) int {
		seed = seed*1664525 + 1013904223
		return int(seed>>8) % n
	}
	s, want := store(1), store(1)
	for step := range 4000 {
		f := fact([]string{"a", "b", "c"}[roll(3)], num(roll(20)))
		at := slices.IndexFunc(want.Items, func(x impl.Item) bool { return alike(x.F, f) })
		wantId, wantOk := 0, true
		if roll(5) < 3 {
			switch {
			case at >= 0:
				wantId = want.Items[at].Id
			case len(want.Items) == 40:
				wantOk = false
			default:
				wantId, want.Next = want.Next, want.Next+1
				want.Items = append(want.Items, item(wantId, f))
			}
			after, id, ok := impl.Assert(s, f)
			if id != wantId || ok != wantOk {
				t.Fatalf("step %d: %v: %d %v", step, f, id, ok)
			}
			s = after
		} else if at >= 0 {
			after, ok := impl.Retract(s, want.Items[at].Id)
			if !ok {
				t.Fatalf("step %d: %v is not retracted", step, f)
			}
			s, want.Items = after, slices.Delete(want.Items, at, at+1)
		}
		if !alikeStores(s, want) || !impl.StoreOk(s) {
			t.Fatalf("step %d: %v, not %v", step, s, want)
		}
	}
}

func TestFactOfAndIdOf(t *testing.T) {
	for i, s := range goodStores() {
		for _, x := range s.Items {
			if f, ok := impl.FactOf(s, x.Id); !ok || !alike(f, x.F) {
				t.Errorf("%d, Id %d: %v %v", i, x.Id, f, ok)
			}
			if id := impl.IdOf(s, fact(x.F.Kind, slices.Clone(x.F.Fields)...)); id != x.Id {
				t.Errorf("%d, %v: %d", i, x.F, id)
			}
		}
		for _, id := range []int{math.MinInt, -1, 0, s.Next, s.Next + 1, math.MaxInt} {
			if f, ok := impl.FactOf(s, id); ok || !isZeroFact(f) {
				t.Errorf("%d, Id %d: %v %v", i, id, f, ok)
			}
		}
		for _, f := range []impl.Fact{{}, fact("new_one"), fact("a", num(1), num(1)), fact("n"), fact("n", num(40)), fact("n", txt("1"))} {
			if id := impl.IdOf(s, f); id != 0 {
				t.Errorf("%d, %v: %d", i, f, id)
			}
		}
		for why, f := range wrongFacts() {
			if id := impl.IdOf(s, f); id != 0 {
				t.Errorf("%d, %s: %d", i, why, id)
			}
		}
	}
	gap := store(9, item(2, fact("a")), item(7, fact("b")))
	for id := range 10 {
		if _, ok := impl.FactOf(gap, id); ok != (id == 2 || id == 7) {
			t.Errorf("Id %d: %v", id, ok)
		}
	}
}

func TestOfKind(t *testing.T) {
	s := store(9, item(1, fact("b")), item(2, fact("a", num(1))), item(4, fact("a")), item(5, fact("ab", num(1))), item(7, fact("b", num(2))), item(8, fact("a", num(1), num(2))))
	for kind, want := range map[string][]int{
		"a": {2, 4, 8}, "b": {1, 7}, "ab": {5}, "c": nil, "": nil, "A": nil, "a(": nil, "a()": nil, "abc": nil, "\xff": nil,
	} {
		if got := impl.OfKind(s, kind); !slices.Equal(got, want) {
			t.Errorf("%q: %v", kind, got)
		}
	}
	if got := impl.OfKind(store(1), "a"); len(got) != 0 {
		t.Error("without items:", got)
	}
	if got := impl.OfKind(filled(40), "n"); len(got) != 40 || got[0] != 1 || got[39] != 40 {
		t.Error("40 items:", got)
	}
}

// A store that is not right is asked as it stands: the first of several counts.
func TestWhatIsAskedOfWrongStores(t *testing.T) {
	no, six := impl.Fact{}, fact("a", num(1), num(1), num(1), num(1), num(1), num(1))
	a, b := fact("a", num(1)), fact("b")
	s := store(-5, item(9, b), item(0, a), item(9, a), item(-3, no), item(math.MaxInt, six), item(0, no), item(9, a), item(2, fact("", num(1))))
	for id, want := range map[int]impl.Fact{9: b, 0: a, -3: no, math.MaxInt: six, 2: fact("", num(1))} {
		if f, ok := impl.FactOf(s, id); !ok || !alike(f, want) {
			t.Errorf("Id %d: %v %v", id, f, ok)
		}
	}
	for _, id := range []int{1, -1, 3, math.MinInt} {
		if f, ok := impl.FactOf(s, id); ok || !isZeroFact(f) {
			t.Errorf("Id %d: %v %v", id, f, ok)
		}
	}
	for _, x := range []struct {
		f    impl.Fact
		want int
	}{
		{b, 9}, {a, 0}, {no, -3}, {six, math.MaxInt}, {fact("", num(1)), 2},
		{fact("a"), 0}, {fact("a", num(1), num(1), num(1), num(1), num(1)), 0}, {fact("a", num(1), num(1), num(1), num(1), num(1), num(2)), 0}, {fact("", impl.Val{}), 0},
	} {
		if id := impl.IdOf(s, x.f); id != x.want {
			t.Errorf("%v: %d", x.f, id)
		}
	}
	for kind, want := range map[string][]int{"a": {0, 9, math.MaxInt, 9}, "b": {9}, "": {-3, 0, 2}, "c": nil} {
		if got := impl.OfKind(s, kind); !slices.Equal(got, want) {
			t.Errorf("%q: %v", kind, got)
		}
	}
	for why, s := range wrongStores() {
		for _, x := range s.Items {
			first := slices.IndexFunc(s.Items, func(y impl.Item) bool { return y.Id == x.Id })
			if f, ok := impl.FactOf(s, x.Id); !ok || !alike(f, s.Items[first].F) {
				t.Errorf("%s, Id %d: %v %v", why, x.Id, f, ok)
			}
			first = slices.IndexFunc(s.Items, func(y impl.Item) bool { return alike(y.F, x.F) })
			if id := impl.IdOf(s, x.F); id != s.Items[first].Id {
				t.Errorf("%s, %v: %d", why, x.F, id)
			}
		}
	}
}

// guardedStore is s with spare room behind its items and their fields, and tells whether nobody wrote to any.
func guardedStore(s impl.Store) (impl.Store, func() bool) {
	var rows []impl.Item
	var clean []func() bool
	for _, x := range s.Items {
		f, unwritten := guardedFact(x.F)
		rows, clean = append(rows, item(x.Id, f)), append(clean, unwritten)
	}
	for i := range 4 {
		rows = append(rows, item(70+i, fact("spare", num(i))))
	}
	was := fmt.Sprint(rows)
	return impl.Store{Items: rows[:len(s.Items)], Next: s.Next}, func() bool {
		return fmt.Sprint(rows) == was && !slices.ContainsFunc(clean, func(unwritten func() bool) bool { return !unwritten() })
	}
}

// scribble writes over all that an answer reaches, its spare room too.
func scribble(s impl.Store) {
	rows := s.Items[:cap(s.Items)]
	for i := range rows {
		scribbleFact(rows[i].F)
		rows[i] = item(-9, fact("scribble"))
	}
}

func scribbleFact(f impl.Fact) {
	all := f.Fields[:cap(f.Fields)]
	for i := range all {
		all[i] = num(-99)
	}
}

// storesAndFacts are stores, right and wrong, each with facts to assert and Ids to ask for.
func storesAndFacts(check func(s impl.Store, f impl.Fact, id int)) {
	all := goodStores()
	for _, s := range wrongStores() {
		all = append(all, s)
	}
	for _, s := range all {
		check(s, fact("new_one", num(1), txt("x")), s.Next)
		check(s, fact("", num(1)), 0)
		for _, x := range s.Items[:min(3, len(s.Items))] {
			check(s, x.F, x.Id)
		}
	}
}

func TestStoresWriteIntoNoArgument(t *testing.T) {
	storesAndFacts(func(x impl.Store, y impl.Fact, id int) {
		s, cleanStore := guardedStore(x)
		f, cleanFact := guardedFact(y)
		impl.StoreOk(s)
		impl.Assert(s, f)
		impl.Retract(s, id)
		impl.FactOf(s, id)
		impl.IdOf(s, f)
		impl.OfKind(s, f.Kind)
		if !cleanStore() || !cleanFact() {
			t.Errorf("%v, %v, %d", x, y, id)
		}
	})
}

func TestStoreAnswersShareNoMemory(t *testing.T) {
	storesAndFacts(func(x impl.Store, y impl.Fact, id int) {
		s, cleanStore := guardedStore(x)
		f, cleanFact := guardedFact(y)
		one, _, _ := impl.Assert(s, f)
		two, _, _ := impl.Assert(s, f)
		wantTwo := cloneStore(two)
		less, _ := impl.Retract(s, id)
		least, _ := impl.Retract(s, id)
		wantLeast := cloneStore(least)
		told, _ := impl.FactOf(s, id)
		retold, _ := impl.FactOf(s, id)
		wantRetold := fact(retold.Kind, slices.Clone(retold.Fields)...)
		scribble(one)
		scribble(less)
		scribbleFact(told)
		if !cleanStore() || !cleanFact() {
			t.Errorf("%v, %v, %d: an answer shares memory with an argument", x, y, id)
		}
		scribble(s)
		scribbleFact(f)
		if !alikeStores(two, wantTwo) || !alikeStores(least, wantLeast) || !alike(retold, wantRetold) {
			t.Errorf("%v, %v, %d: an answer turns with its argument or another answer", x, y, id)
		}
	})
}

// Two items of an argument may share their fields; those of an answer may not.
func TestListsOfOneAnswerShareNoMemory(t *testing.T) {
	fields := []impl.Val{num(1), num(2), num(3)}
	a, b, c := impl.Fact{Kind: "a", Fields: fields}, impl.Fact{Kind: "b", Fields: fields[:2]}, impl.Fact{Kind: "c", Fields: fields}
	s := store(3, item(1, a), item(2, b))
	added, _, _ := impl.Assert(s, c)
	there, _, _ := impl.Assert(s, a)
	refused, _, _ := impl.Assert(s, impl.Fact{})
	wrong, _, _ := impl.Assert(store(0, item(1, a), item(2, b)), c)
	less, _ := impl.Retract(store(4, item(1, a), item(2, b), item(3, c)), 3)
	for i, got := range []impl.Store{added, there, refused, wrong, less} {
		if len(got.Items) < 2 || len(got.Items[0].F.Fields) != 3 || len(got.Items[1].F.Fields) != 2 {
			t.Fatalf("%d: %v", i, got)
		}
		for at := range got.Items {
			want := cloneStore(got)
			scribbleFact(got.Items[at].F)
			_ = append(got.Items[at].F.Fields, num(5))
			want.Items[at].F = got.Items[at].F
			if !alikeStores(got, want) {
				t.Errorf("%d: item %d shares its fields: %v", i, at, got)
			}
		}
	}
}

func TestOfKindSharesNoMemory(t *testing.T) {
	s := filled(5)
	one, two := impl.OfKind(s, "n"), impl.OfKind(s, "n")
	for i := range one[:cap(one)] {
		one[:cap(one)][i] = -1
	}
	if !slices.Equal(two, []int{1, 2, 3, 4, 5}) || !alikeStores(s, filled(5)) {
		t.Error(two, s)
	}
}
