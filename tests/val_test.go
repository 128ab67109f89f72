package tests

import (
	"math"
	"strconv"
	"strings"
	"testing"

	"loop.example/g00282/impl"
)

const twenty = "abcdefghijklm_012789"

func num(n int) impl.Val { return impl.Val{K: impl.VInt, N: n} }

func txt(s string) impl.Val { return impl.Val{K: impl.VText, S: s} }

// goodVals are values that may be, in their order.
func goodVals() []impl.Val {
	return []impl.Val{
		num(-impl.MaxInt), num(1 - impl.MaxInt), num(-65), num(-64), num(-10), num(-9), num(-1), num(0), num(1), num(9), num(10), num(63), num(64), num(impl.MaxInt - 1), num(impl.MaxInt),
		txt(""), txt("0"), txt("00"), txt("01"), txt("1"), txt("10"), txt("_"), txt("a"), txt("a_1"), txt("aa"), txt("ab"), txt(twenty[:19]), txt(twenty), txt("b"), txt("z"), txt(strings.Repeat("z", 20)),
	}
}

// wrongVals are what is no value, each with its reason.
func wrongVals() map[string]impl.Val {
	return map[string]impl.Val{
		"nothing":                             {},
		"no kind, a number":                   {N: 1},
		"no kind, a text":                     {S: "a"},
		"a kind of 3":                         {K: 3},
		"a kind of 3, a number":               {K: 3, N: 1},
		"a kind of 3, a text":                 {K: 3, S: "a"},
		"a kind below 0":                      {K: -1, N: 1},
		"the least kind":                      {K: math.MinInt},
		"the greatest kind":                   {K: math.MaxInt, S: "a"},
		"one above MaxInt":                    num(impl.MaxInt + 1),
		"one below -MaxInt":                   num(-impl.MaxInt - 1),
		"the greatest number":                 num(math.MaxInt),
		"the least number":                    num(math.MinInt),
		"2 to the 32":                         num(1 << 32),
		"a number with a text":                {K: impl.VInt, N: 5, S: "a"},
		"a number 0 with a text":              {K: impl.VInt, S: "a"},
		"a text with a number":                {K: impl.VText, N: 5, S: "a"},
		"an empty text with a number":         {K: impl.VText, N: 1},
		"a text with a number below 0":        {K: impl.VText, N: -1, S: "a"},
		"21 bytes":                            txt(twenty + "a"),
		"many bytes":                          txt(strings.Repeat("a", 5000)),
		"a large letter":                      txt("A"),
		"a large letter at the end":           txt("abC"),
		"a blank":                             txt("a b"),
		"a quote":                             txt("'"),
		"a quote within":                      txt("a'b"),
		"a sign":                              txt("-1"),
		"a byte 0":                            txt("\x00"),
		"a byte 10":                           txt("a\n"),
		"a byte 255":                          txt("\xff"),
		"a letter of two bytes":               txt("\u00e4"),
		"a wrong byte behind 19 right ones":   txt(twenty[:19] + "."),
		"a wrong byte ahead of 19 right ones": txt("." + twenty[:19]),
	}
}

func TestKindsOfValues(t *testing.T) {
	if impl.VInt != 1 || impl.VText != 2 {
		t.Error(impl.VInt, impl.VText)
	}
}

// checkOks wants all that are right to be, and nothing of what is wrong.
func checkOks[T any](t *testing.T, isOk func(T) bool, right []T, wrong map[string]T) {
	t.Helper()
	for _, x := range right {
		if !isOk(x) {
			t.Errorf("%v may be", x)
		}
	}
	for why, x := range wrong {
		if isOk(x) {
			t.Errorf("%s: %v may not be", why, x)
		}
	}
}

func TestValOk(t *testing.T) { checkOks(t, impl.ValOk, goodVals(), wrongVals()) }

func TestValOkByteByByte(t *testing.T) {
	const right = "abcdefghijklmnopqrstuvwxyz0123456789_"
	for c := range 256 {
		s := string([]byte{byte(c)})
		want := strings.Contains(right, s)
		for _, x := range []string{s, "a" + s, s + "a", twenty[:10] + s + twenty[11:]} {
			if impl.ValOk(txt(x)) != want {
				t.Errorf("%q: %v", x, !want)
			}
		}
	}
}

func TestLessVal(t *testing.T) {
	row := goodVals()
	for i, a := range row {
		for k, b := range row {
			if impl.LessVal(a, b) != (i < k) {
				t.Errorf("%v, %v: %v", a, b, i >= k)
			}
		}
	}
}

// The order is by K, then N, then S of whatever is handed in, so of two unlike ones one is less.
func TestLessValOfWhatIsNoValue(t *testing.T) {
	row := []impl.Val{
		{K: math.MinInt, N: 7, S: "z"}, {K: -1}, {K: -1, S: "a"}, {K: -1, N: 1}, {K: 0, N: math.MinInt}, {}, {S: "\x00"}, {S: "A"}, {S: "a"}, {N: 1}, {N: 1, S: "a"},
		num(math.MinInt), num(-impl.MaxInt - 1), num(-2), num(0), {K: 1, S: "a"}, num(1), {K: 1, N: 1, S: "\xff"}, num(math.MaxInt),
		{K: 2, N: -5, S: "z"}, txt(""), txt("A"), txt("a"), txt("a\x00"), txt("a\xff"), txt("b"), {K: 2, N: 1}, {K: 2, N: 1, S: "a"}, {K: 3}, {K: math.MaxInt},
	}
	for i, a := range row {
		for k, b := range row {
			if impl.LessVal(a, b) != (i < k) {
				t.Errorf("%v, %v: %v", a, b, i >= k)
			}
		}
	}
}

func TestValBytes(t *testing.T) {
	for _, x := range []struct {
		v    impl.Val
		want string
	}{
		{num(0), "\x02\x00"}, {num(3), "\x02\x06"}, {num(-1), "\x02\x01"}, {num(64), "\x02\x80\x01"},
		{num(impl.MaxInt), "\x02\x80\xa8\xd6\xb9\x07"}, {num(-impl.MaxInt), "\x02\xff\xa7\xd6\xb9\x07"},
		{txt(""), "\x04\x00"}, {txt("ab"), "\x04\x04ab"}, {txt(twenty), "\x04\x28" + twenty},
	} {
		if b := impl.PutVal(nil, x.v); string(b) != x.want {
			t.Errorf("%v: %x", x.v, b)
		}
		if b := impl.PutVal([]byte("xy"), x.v); string(b) != "xy"+x.want {
			t.Errorf("behind others, %v: %x", x.v, b)
		}
	}
}

// The bytes are said for every value, those that may not be too.
func TestBytesOfWhatIsNoValue(t *testing.T) {
	for _, x := range []struct {
		v    impl.Val
		want string
	}{
		{impl.Val{}, "\x00\x00"},
		{impl.Val{N: 7, S: "a"}, "\x00\x02a"},
		{impl.Val{K: 3, N: 7, S: "a"}, "\x06\x02a"},
		{impl.Val{K: -1, N: 7, S: "A\x00"}, "\x01\x04A\x00"},
		{impl.Val{K: impl.VInt, N: 3, S: "a"}, "\x02\x06"},
		{impl.Val{K: impl.VText, N: 3, S: "a"}, "\x04\x02a"},
		{num(impl.MaxInt + 1), "\x02\x80\xa8\xd6\xb9\x07"},
		{num(math.MinInt), "\x02\xff\xa7\xd6\xb9\x07"},
		{impl.Val{K: math.MaxInt, S: "b"}, "\x80\xa8\xd6\xb9\x07\x02b"},
		{txt(twenty + "b"), "\x04\x2a" + twenty + "b"},
	} {
		if b := impl.PutVal(nil, x.v); string(b) != x.want {
			t.Errorf("%v: %x", x.v, b)
		}
	}
}

func TestValsComeBackOfTheirBytes(t *testing.T) {
	var all []byte
	for _, v := range goodVals() {
		b := impl.PutVal([]byte{0x80, 2}, v)
		size := len(b)
		for _, behind := range []string{"", "\x00", "\xff\xff", "abc"} {
			if got, next, ok := impl.GetVal(append(b[:size:size], behind...), 2); !ok || got != v || next != size {
				t.Errorf("%v: %v %d %v", v, got, next, ok)
			}
		}
		all = impl.PutVal(all, v)
	}
	at := 0
	for _, v := range goodVals() {
		got, next, ok := impl.GetVal(all, at)
		if !ok || got != v {
			t.Fatalf("in a row, %v: %v %v", v, got, ok)
		}
		at = next
	}
	if at != len(all) {
		t.Error(at, len(all))
	}
}

func TestGetValRefuses(t *testing.T) {
	for _, x := range []struct {
		why string
		b   string
		at  int
	}{
		{"nothing", "", 0},
		{"the end", "\x02\x06", 2},
		{"past the end", "\x02\x06", 3},
		{"far past the end", "\x02\x06", math.MaxInt},
		{"below nought", "\x02\x06", -1},
		{"far below nought", "\x02\x06", math.MinInt},
		{"a kind alone", "\x02", 0},
		{"a kind of a text alone", "\x04", 0},
		{"a kind that is not whole", "\x82", 0},
		{"a kind whose last group is 0", "\x82\x00\x06", 0},
		{"a number that is not whole", "\x02\x80", 0},
		{"a number whose last group is 0", "\x02\x86\x00", 0},
		{"a number above MaxInt", "\x02\x82\xa8\xd6\xb9\x07", 0},
		{"a number below -MaxInt", "\x02\x81\xa8\xd6\xb9\x07", 0},
		{"a text that is not whole", "\x04\x04a", 0},
		{"a text of a length below 0", "\x04\x01a", 0},
		{"a text of 21 bytes", "\x04\x2a" + twenty + "a", 0},
		{"a large letter", "\x04\x04aB", 0},
		{"a quote", "\x04\x02'", 0},
		{"a byte 0", "\x04\x02\x00", 0},
		{"a byte 255", "\x04\x02\xff", 0},
		{"a kind of 0, a text", "\x00\x02a", 0},
		{"a kind of 0, an empty text", "\x00\x00", 0},
		{"a kind of 3", "\x06\x02a", 0},
		{"a kind of -1", "\x01\x02a", 0},
		{"a kind of -2", "\x03\x02a", 0},
		{"a kind of MaxInt", "\x80\xa8\xd6\xb9\x07\x02b", 0},
	} {
		if v, next, ok := impl.GetVal([]byte(x.b), x.at); v != (impl.Val{}) || next != 0 || ok {
			t.Errorf("%s: %v %d %v", x.why, v, next, ok)
		}
	}
	if _, _, ok := impl.GetVal(nil, 0); ok {
		t.Error("nil")
	}
}

func TestGetValReadsNothingBehindTheLength(t *testing.T) {
	for _, v := range goodVals() {
		b := impl.PutVal(nil, v)
		for n := range b {
			if got, next, ok := impl.GetVal(b[:n], 0); got != (impl.Val{}) || next != 0 || ok {
				t.Errorf("%v of %d bytes: %v %d %v", v, n, got, next, ok)
			}
		}
	}
}

// What may not be does not come back as something else that may be by its kind.
func TestWhatIsNoValueDoesNotComeBack(t *testing.T) {
	for why, v := range wrongVals() {
		got, _, ok := impl.GetVal(impl.PutVal(nil, v), 0)
		if ok && got == v {
			t.Errorf("%s: %v", why, v)
		}
		if ok && !impl.ValOk(got) {
			t.Errorf("%s: %v is read", why, got)
		}
	}
}

func TestValTexts(t *testing.T) {
	for s, v := range map[string]impl.Val{
		"0": num(0), "7": num(7), "-7": num(-7), "10": num(10), "100": num(100), "1000000000": num(impl.MaxInt), "-1000000000": num(-impl.MaxInt), "999999999": num(999999999),
		"''": txt(""), "'a'": txt("a"), "'0'": txt("0"), "'01'": txt("01"), "'_'": txt("_"), "'a_1'": txt("a_1"), "'" + twenty + "'": txt(twenty),
	} {
		if got := impl.ValText(v); got != s {
			t.Errorf("%v: %q", v, got)
		}
		if got, ok := impl.ParseVal(s); !ok || got != v {
			t.Errorf("%q: %v %v", s, got, ok)
		}
	}
}

func TestValsComeBackOfTheirTexts(t *testing.T) {
	for _, v := range goodVals() {
		if got, ok := impl.ParseVal(impl.ValText(v)); !ok || got != v {
			t.Errorf("%v: %v %v", v, got, ok)
		}
	}
	for n := -1200; n <= 1200; n++ {
		s := strconv.Itoa(n)
		if got, ok := impl.ParseVal(s); !ok || got != num(n) || impl.ValText(got) != s {
			t.Errorf("%d: %v %v", n, got, ok)
		}
	}
	for why, v := range wrongVals() {
		if s := impl.ValText(v); s != "" {
			t.Errorf("%s: %q", why, s)
		}
	}
}

func TestParseValRefuses(t *testing.T) {
	for _, s := range []string{
		"", " ", "-", "+", "--1", "-0", "+0", "+1", "00", "01", "-01", "007", "1 ", " 1", "1\n", "1.", "1.0", "1e3", "1_0", "0x1", "0b1", "1-", "1a",
		"1000000001", "-1000000001", "10000000000", "9223372036854775807", "9223372036854775808", "-9223372036854775808", "18446744073709551616", strings.Repeat("9", 400), strings.Repeat("0", 400),
		"'", "'''", "''''", "'a", "a'", "a", "''a", "a''", "'a''", "''a'", "'a'b'", "'a' ", " 'a'", "'a'\n", "'A'", "'a b'", "'-1'", "'\x00'", "'\xff'", "'\u00e4'", "'" + twenty + "a'", "'" + strings.Repeat("a", 500) + "'",
		"\"a\"", "`a`", "\u0661", "\x00", "\xff", "'a\"", "\u2019a\u2019", "_", "A",
	} {
		if v, ok := impl.ParseVal(s); ok || v != (impl.Val{}) {
			t.Errorf("%q: %v %v", s, v, ok)
		}
	}
}

// What is read is the only text of its value, so no two texts are one value.
func TestParseValTakesOneFormOnly(t *testing.T) {
	const signs = "'-+01a_ A\x00"
	for x := range len(signs) * len(signs) * len(signs) {
		s := string([]byte{signs[x%len(signs)], signs[x/len(signs)%len(signs)], signs[x/len(signs)/len(signs)]})
		for n := range len(s) + 1 {
			v, ok := impl.ParseVal(s[:n])
			if ok && (!impl.ValOk(v) || impl.ValText(v) != s[:n]) {
				t.Errorf("%q: %v", s[:n], v)
			}
		}
	}
}

func TestSumsAndDifferences(t *testing.T) {
	const most = impl.MaxInt
	numbers := []int{0, 1, -1, 2, 5, -7, most, -most, most - 1, 1 - most, most / 2, most/2 + 1, -most / 2, -most/2 - 1}
	may := func(n int) (impl.Val, bool) {
		if n < -most || n > most {
			return impl.Val{}, false
		}
		return num(n), true
	}
	for _, x := range numbers {
		for _, y := range numbers {
			want, wantOk := may(x + y)
			if v, ok := impl.AddVals(num(x), num(y)); v != want || ok != wantOk {
				t.Errorf("%d + %d: %v %v", x, y, v, ok)
			}
			want, wantOk = may(x - y)
			if v, ok := impl.SubVals(num(x), num(y)); v != want || ok != wantOk {
				t.Errorf("%d - %d: %v %v", x, y, v, ok)
			}
		}
	}
}

func TestSumsAtTheLimit(t *testing.T) {
	const most = impl.MaxInt
	for _, x := range []struct {
		a, b int
		add  bool
		want int
		ok   bool
	}{
		{most, 0, true, most, true}, {most, 1, true, 0, false}, {most - 1, 1, true, most, true}, {-most, -1, true, 0, false}, {-most, most, true, 0, true}, {most, most, true, 0, false},
		{-most, 0, false, -most, true}, {-most, 1, false, 0, false}, {most, -1, false, 0, false}, {1 - most, 1, false, -most, true}, {most, most, false, 0, true}, {0, most, false, -most, true}, {-most, most, false, 0, false}, {2, 3, false, -1, true}, {3, 2, false, 1, true},
	} {
		v, ok := impl.SubVals(num(x.a), num(x.b))
		if x.add {
			v, ok = impl.AddVals(num(x.a), num(x.b))
		}
		want := impl.Val{}
		if x.ok {
			want = num(x.want)
		}
		if ok != x.ok || v != want {
			t.Errorf("%d, %d, sum %v: %v %v", x.a, x.b, x.add, v, ok)
		}
	}
}

func TestSumsOfWhatIsNoNumber(t *testing.T) {
	wrong := wrongVals()
	for _, s := range []string{"", "1", "a"} {
		wrong["the text "+s] = txt(s)
	}
	for why, v := range wrong {
		for _, other := range []impl.Val{num(0), num(1), num(impl.MaxInt), num(-impl.MaxInt), txt("1"), v} {
			for name, f := range map[string]func(impl.Val, impl.Val) (impl.Val, bool){"AddVals": impl.AddVals, "SubVals": impl.SubVals} {
				if x, ok := f(v, other); ok || x != (impl.Val{}) {
					t.Errorf("%s, ahead, of %s: %v %v", name, why, x, ok)
				}
				if x, ok := f(other, v); ok || x != (impl.Val{}) {
					t.Errorf("%s, behind, of %s: %v %v", name, why, x, ok)
				}
			}
		}
	}
}

func TestValsWriteIntoNoArgument(t *testing.T) {
	for _, content := range []string{"", "a", "\x02\x06", "\x04\x04ab", "\x04\x04a", "\x06\x00"} {
		b, clean := guarded(content)
		for _, v := range append(goodVals(), impl.Val{}, impl.Val{K: 3, N: 1, S: "A"}) {
			impl.PutVal(b, v)
		}
		for at := -1; at <= len(content)+1; at++ {
			impl.GetVal(b, at)
		}
		if !clean() {
			t.Errorf("%q", content)
		}
	}
}

func TestValsShareNoMemory(t *testing.T) {
	for _, v := range append(goodVals(), impl.Val{}, impl.Val{K: 3, N: 1, S: "A"}) {
		b, clean := guarded("abc")
		one, two := impl.PutVal(b, v), impl.PutVal(b, v)
		want := string(two)
		for i := range one[:cap(one)] {
			one[:cap(one)][i] ^= 255
		}
		if !clean() || string(two) != want {
			t.Errorf("%v: an answer shares memory", v)
		}
		for i := range b {
			b[i] ^= 255
		}
		if string(two) != want {
			t.Errorf("%v: an answer turns with its argument", v)
		}
	}
	b := impl.PutVal(nil, txt("xyz"))
	v, _, _ := impl.GetVal(b, 0)
	for i := range b {
		b[i] = 'q'
	}
	if v != txt("xyz") {
		t.Errorf("%v", v)
	}
}
