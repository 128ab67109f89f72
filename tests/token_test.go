package tests

import (
	"math"
	"math/rand/v2"
	"regexp"
	"slices"
	"strconv"
	"strings"
	"testing"
	"unsafe"

	"loop.example/g00282/impl"
)

const twelveVar = "AbCdefgZ_019"

func kint(n int) impl.Token { return impl.Token{K: impl.KInt, N: n} }

func kname(s string) impl.Token { return impl.Token{K: impl.KName, S: s} }

func kvar(s string) impl.Token { return impl.Token{K: impl.KVar, S: s} }

func ktext(s string) impl.Token { return impl.Token{K: impl.KText, S: s} }

func kmark(s string) impl.Token { return impl.Token{K: impl.KMark, S: s} }

func tokens(l ...impl.Token) []impl.Token { return l }

func marks() []string {
	return []string{"(", ")", ",", ".", ":", "->", "-", "+", "=", "#", "<", "!", "_"}
}

// textsOfTokens are tokens that may be, by the text of each.
func textsOfTokens() map[string]impl.Token {
	all := map[string]impl.Token{
		"0": kint(0), "1": kint(1), "9": kint(9), "10": kint(10), "100": kint(100), "999999999": kint(impl.MaxInt - 1), "1000000000": kint(impl.MaxInt),
		"a": kname("a"), "z": kname("z"), "a_": kname("a_"), "a0": kname("a0"), "rule": kname("rule"), "a__9z": kname("a__9z"), twelve[:11]: kname(twelve[:11]), twelve: kname(twelve),
		"A": kvar("A"), "Z": kvar("Z"), "A_": kvar("A_"), "Z9": kvar("Z9"), "Xa": kvar("Xa"), "XA": kvar("XA"), "X_1": kvar("X_1"), "AaBb0_": kvar("AaBb0_"), twelveVar[:11]: kvar(twelveVar[:11]), twelveVar: kvar(twelveVar),
		"''": ktext(""), "'a'": ktext("a"), "'0'": ktext("0"), "'_'": ktext("_"), "'00a'": ktext("00a"), "'" + twenty[:19] + "'": ktext(twenty[:19]), "'" + twenty + "'": ktext(twenty),
	}
	for _, s := range marks() {
		all[s] = kmark(s)
	}
	return all
}

// goodTokens are those of textsOfTokens, in one order at every call.
func goodTokens() []impl.Token {
	return inOrder(textsOfTokens())
}

// inOrder are a map's values in the order of its keys, so that a test goes the same way each time.
func inOrder[V any](m map[string]V) []V {
	var l []V
	for _, key := range sortedKeys(m) {
		l = append(l, m[key])
	}
	return l
}

func sortedKeys[V any](m map[string]V) []string {
	var keys []string
	for s := range m {
		keys = append(keys, s)
	}
	slices.Sort(keys)
	return keys
}

// wrongTokens are what is no token, each with its reason.
func wrongTokens() map[string]impl.Token {
	wrong := map[string]impl.Token{
		"nothing":                     {},
		"no kind, a number":           {N: 1},
		"no kind, a name":             {S: "a"},
		"a kind of 6":                 {K: 6, S: "a"},
		"a kind of 6, a number":       {K: 6, N: 1},
		"a kind of 6, a mark":         {K: 6, S: "("},
		"a kind below 0":              {K: -1, N: 1},
		"the least kind":              {K: math.MinInt, S: "a"},
		"the greatest kind":           {K: math.MaxInt, S: "A"},
		"a number of -1":              kint(-1),
		"a number of -MaxInt":         kint(-impl.MaxInt),
		"the least number":            kint(math.MinInt),
		"one above MaxInt":            kint(impl.MaxInt + 1),
		"2 to the 32":                 kint(1 << 32),
		"the greatest number":         kint(math.MaxInt),
		"a number with a text":        {K: impl.KInt, N: 5, S: "a"},
		"a number with its digits":    {K: impl.KInt, N: 5, S: "5"},
		"a number 0 with a text":      {K: impl.KInt, S: "0"},
		"a name of nothing":           kname(""),
		"a name of 13":                kname(twelve + "a"),
		"a name of many":              kname(strings.Repeat("a", 5000)),
		"a name from a digit":         kname("1a"),
		"a name from _":               kname("_a"),
		"a name from a large letter":  kname("Ab"),
		"a name with a large letter":  kname("aB"),
		"a name with a blank":         kname("a b"),
		"a name behind a blank":       kname(" a"),
		"a name with a byte 10":       kname("a\n"),
		"a name with a byte 0":        kname("a\x00"),
		"a name of two bytes' letter": kname("a\u00e4"),
		"a mark as a name":            kname("("),
		"a variable of nothing":       kvar(""),
		"a variable of 13":            kvar(twelveVar + "a"),
		"a variable of many":          kvar(strings.Repeat("A", 5000)),
		"a variable from a small one": kvar("x"),
		"a variable from a digit":     kvar("1A"),
		"a variable from _":           kvar("_A"),
		"_ as a variable":             kvar("_"),
		"a variable with a blank":     kvar("A b"),
		"a variable with a mark":      kvar("A-"),
		"a variable with a byte 0":    kvar("A\x00"),
		"a variable with a byte 255":  kvar("A\xff"),
		"a text of 21":                ktext(twenty + "a"),
		"a text of many":              ktext(strings.Repeat("a", 5000)),
		"a text with a large letter":  ktext("aB"),
		"a text with a blank":         ktext("a b"),
		"a text with a quote":         ktext("'"),
		"a text within quotes":        ktext("'a'"),
		"a text with a sign":          ktext("-1"),
		"a mark of nothing":           kmark(""),
		"a mark of >":                 kmark(">"),
		"a mark of two":               kmark("(("),
		"a mark of - and -":           kmark("--"),
		"a mark of -> and a blank":    kmark("-> "),
		"a mark behind a blank":       kmark(" ("),
		"a mark of a letter":          kmark("a"),
		"a mark of a digit":           kmark("0"),
		"a mark of two _":             kmark("__"),
		"a mark of a quote":           kmark("'"),
		"a mark of %":                 kmark("%"),
		"a mark of ;":                 kmark(";"),
	}
	for _, x := range tokens(kname("a"), kvar("A"), ktext(""), ktext("a"), kmark("->"), kmark("_")) {
		for _, n := range []int{math.MinInt, -1, 1, 5, impl.MaxInt, math.MaxInt} {
			wrong["kind "+strconv.Itoa(x.K)+", "+x.S+", with the number "+strconv.Itoa(n)] = impl.Token{K: x.K, N: n, S: x.S}
		}
	}
	return wrong
}

func checkLex(t *testing.T, s string, want ...impl.Token) {
	t.Helper()
	if got, place := impl.Lex(s); place != -1 || !slices.Equal(got, want) {
		t.Errorf("%.80q: %v %d, not %v", s, got, place, want)
	}
}

func checkLexRefuses(t *testing.T, s string, want int) {
	t.Helper()
	if got, place := impl.Lex(s); place != want || len(got) != 0 {
		t.Errorf("%.80q: %v %d, not %d", s, got, place, want)
	}
}

func TestTokenConstants(t *testing.T) {
	if impl.KInt != 1 || impl.KName != 2 || impl.KVar != 3 || impl.KText != 4 || impl.KMark != 5 || impl.MaxTokens != 3000 {
		t.Error(impl.KInt, impl.KName, impl.KVar, impl.KText, impl.KMark, impl.MaxTokens)
	}
}

func TestTokenOkAndItsText(t *testing.T) {
	for s, x := range textsOfTokens() {
		if !impl.TokenOk(x) || impl.TokenText(x) != s {
			t.Errorf("%v: %v %q, not %q", x, impl.TokenOk(x), impl.TokenText(x), s)
		}
	}
	for why, x := range wrongTokens() {
		if impl.TokenOk(x) || impl.TokenText(x) != "" {
			t.Errorf("%s: %v %q", why, impl.TokenOk(x), impl.TokenText(x))
		}
	}
}

// Each byte alone, and behind and ahead of another one, in each kind.
func TestTokenOkByteByByte(t *testing.T) {
	small := regexp.MustCompile(`\A[a-z][a-z0-9_]*\z`)
	large := regexp.MustCompile(`\A[A-Z][A-Za-z0-9_]*\z`)
	within := regexp.MustCompile(`\A[a-z0-9_]*\z`)
	for c := range 256 {
		b := string([]byte{byte(c)})
		for _, s := range []string{b, "a" + b, b + "a", "A" + b, b + "A", "-" + b, b + ">", "_" + b} {
			for k, want := range map[int]bool{impl.KInt: false, impl.KName: small.MatchString(s), impl.KVar: large.MatchString(s), impl.KText: within.MatchString(s), impl.KMark: slices.Contains(marks(), s)} {
				if got := impl.TokenOk(impl.Token{K: k, S: s}); got != want {
					t.Errorf("kind %d, %q: %v", k, s, got)
				}
			}
		}
	}
}

func TestLexOfEachToken(t *testing.T) {
	for s, x := range textsOfTokens() {
		checkLex(t, s, x)
		for _, blank := range []string{" ", "\t", "\n", "\r", "\r\n \t", "%\n", "% a 'B ;\n", "%%\n\n%\xff\x00\n"} {
			checkLex(t, blank+s, x)
			checkLex(t, s+blank, x)
			checkLex(t, blank+s+blank+s+blank, x, x)
		}
		checkLex(t, s+"%", x)
		checkLex(t, s+"%"+s, x)
		checkLex(t, "%"+s)
	}
}

func TestLexOfNothing(t *testing.T) {
	for _, s := range []string{"", " ", "\t", "\n", "\r", "    \t\r\n\n ", "%", "%%", "%\n", "% a remark", "% a remark\n", " % one\n% two\n\t%three", "%'", "%\x00\xff;>\n", "%\r", "%\r;", strings.Repeat(" ", 5000), strings.Repeat("%\n", 5000)} {
		checkLex(t, s)
	}
}

// Only a byte 10 ends a remark, and it ends it at once.
func TestWhereARemarkEnds(t *testing.T) {
	for c := range 256 {
		s := "a%" + string([]byte{byte(c)}) + "b"
		if c == '\n' {
			checkLex(t, s, kname("a"), kname("b"))
		} else {
			checkLex(t, s, kname("a"))
		}
	}
	checkLex(t, "a%b%c\nd", kname("a"), kname("d"))
	checkLexRefuses(t, "% x\n;", 4)
	checkLexRefuses(t, "'%'", 0)
	checkLexRefuses(t, "'%\n'", 0)
}

func TestLexOfATextOfRules(t *testing.T) {
	checkLex(t, "def d. % a remark\nrule r1 -5: a(X_1, 'b', _), !c(X_1) + X_1 # 7 -> task t(X_1 - 1), drop 0.\n",
		kname("def"), kname("d"), kmark("."),
		kname("rule"), kname("r1"), kmark("-"), kint(5), kmark(":"),
		kname("a"), kmark("("), kvar("X_1"), kmark(","), ktext("b"), kmark(","), kmark("_"), kmark(")"), kmark(","),
		kmark("!"), kname("c"), kmark("("), kvar("X_1"), kmark(")"), kmark("+"), kvar("X_1"), kmark("#"), kint(7), kmark("->"),
		kname("task"), kname("t"), kmark("("), kvar("X_1"), kmark("-"), kint(1), kmark(")"), kmark(","), kname("drop"), kint(0), kmark("."))
}

func TestWhereATokenEnds(t *testing.T) {
	for _, x := range []struct {
		s    string
		want []impl.Token
	}{
		{"aB", tokens(kname("a"), kvar("B"))},
		{"Ab", tokens(kvar("Ab"))},
		{"abCd", tokens(kname("ab"), kvar("Cd"))},
		{"AbCd", tokens(kvar("AbCd"))},
		{"a1_Bc_D", tokens(kname("a1_"), kvar("Bc_D"))},
		{twelve + "A", tokens(kname(twelve), kvar("A"))},
		{twelve + twelveVar, tokens(kname(twelve), kvar(twelveVar))},
		{"a'b'c", tokens(kname("a"), ktext("b"), kname("c"))},
		{"'a''b'", tokens(ktext("a"), ktext("b"))},
		{"''''", tokens(ktext(""), ktext(""))},
		{"'a'b", tokens(ktext("a"), kname("b"))},
		{"'1'2", tokens(ktext("1"), kint(2))},
		{"1a", tokens(kint(1), kname("a"))},
		{"1A", tokens(kint(1), kvar("A"))},
		{"0a", tokens(kint(0), kname("a"))},
		{"0_0", tokens(kint(0), kmark("_"), kint(0))},
		{"a1", tokens(kname("a1"))},
		{"_a", tokens(kmark("_"), kname("a"))},
		{"_A_", tokens(kmark("_"), kvar("A_"))},
		{"__1", tokens(kmark("_"), kmark("_"), kint(1))},
		{"a_", tokens(kname("a_"))},
		{"1000000000a", tokens(kint(impl.MaxInt), kname("a"))},
		{"-5", tokens(kmark("-"), kint(5))},
		{"+-5", tokens(kmark("+"), kmark("-"), kint(5))},
		{"0-0", tokens(kint(0), kmark("-"), kint(0))},
		{"1.5", tokens(kint(1), kmark("."), kint(5))},
		{"a%b\nc", tokens(kname("a"), kname("c"))},
	} {
		checkLex(t, x.s, x.want...)
	}
	checkLexRefuses(t, "1_000", 2)
}

func TestADashAheadOfEachByte(t *testing.T) {
	checkLex(t, "-", kmark("-"))
	checkLex(t, "->", kmark("->"))
	checkLex(t, "- -", kmark("-"), kmark("-"))
	checkLex(t, "--", kmark("-"), kmark("-"))
	checkLex(t, "-->", kmark("-"), kmark("->"))
	checkLex(t, "->-", kmark("->"), kmark("-"))
	checkLex(t, "->->", kmark("->"), kmark("->"))
	checkLex(t, "-%\n-", kmark("-"), kmark("-"))
	checkLexRefuses(t, "- >", 2)
	checkLexRefuses(t, "-%\n>", 3)
	checkLexRefuses(t, "->>", 2)
	for _, s := range marks() {
		if s != "->" {
			checkLex(t, "-"+s, kmark("-"), kmark(s))
			checkLex(t, s+"->", kmark(s), kmark("->"))
		}
	}
	for s, x := range textsOfTokens() {
		checkLex(t, "-"+s, kmark("-"), x)
	}
}

func TestLexOfNumbers(t *testing.T) {
	for _, n := range []int{0, 1, 7, 9, 10, 11, 99, 100, 101, 65535, 999999999, impl.MaxInt - 1, impl.MaxInt} {
		checkLex(t, strconv.Itoa(n), kint(n))
		checkLexRefuses(t, "0"+strconv.Itoa(n), 0)
		checkLexRefuses(t, "a 00"+strconv.Itoa(n)+" b", 2)
	}
	for _, s := range []string{"1000000001", "1000000009", "2000000000", "9999999999", "10000000000", "99999999999", "4294967296", "4294967297", "2147483648", "9223372036854775807", "9223372036854775808", "18446744073709551616", "18446744073709551617", strings.Repeat("9", 5000), "1" + strings.Repeat("0", 5000), "00", "000", strings.Repeat("0", 5000), "01000000000"} {
		checkLexRefuses(t, s, 0)
		checkLexRefuses(t, "(A "+s+")", 3)
	}
	for n := range 2000 {
		checkLex(t, strconv.Itoa(n)+"+"+strconv.Itoa(n*499999), kint(n), kmark("+"), kint(n*499999))
	}
}

func TestLexOfNamesAndVariablesByLength(t *testing.T) {
	for n := 1; n <= 40; n++ {
		for _, x := range []impl.Token{kname(strings.Repeat("a", n)), kname("a" + strings.Repeat("_", n-1)), kname("a" + strings.Repeat("0", n-1)), kvar(strings.Repeat("A", n)), kvar("A" + strings.Repeat("a", n-1)), kvar("A" + strings.Repeat("_", n-1)), kvar("A" + strings.Repeat("0", n-1))} {
			if n <= 12 {
				checkLex(t, x.S, x)
				checkLex(t, "("+x.S+")", kmark("("), x, kmark(")"))
			} else {
				checkLexRefuses(t, x.S, 0)
				checkLexRefuses(t, "("+x.S+")", 1)
			}
		}
	}
	checkLexRefuses(t, twelve+"1A", 0)
	checkLexRefuses(t, twelveVar+"_", 0)
	checkLexRefuses(t, "a"+twelveVar+"B", 1)
}

func TestLexOfTexts(t *testing.T) {
	for n := range 40 {
		s := "'" + strings.Repeat("a", n) + "'"
		if n <= 20 {
			checkLex(t, "a"+s+"b", kname("a"), ktext(strings.Repeat("a", n)), kname("b"))
		} else {
			checkLexRefuses(t, s, 0)
			checkLexRefuses(t, "a"+s+"b", 1)
		}
		checkLexRefuses(t, s[:n+1], 0)
		checkLexRefuses(t, "a "+s[:n+1], 2)
		checkLexRefuses(t, "'' "+s[:n+1], 3)
	}
	for c := range 256 {
		b := string([]byte{byte(c)})
		right := strings.Contains("abcdefghijklmnopqrstuvwxyz0123456789_", b)
		for _, within := range []string{b, "a" + b, b + "a", "a" + b + "a"} {
			switch {
			case right:
				checkLex(t, "'"+within+"'", ktext(within))
			case c != '\'':
				checkLexRefuses(t, "'"+within+"'", 0)
				checkLexRefuses(t, "a\n'"+within+"' b", 2)
			}
		}
	}
	checkLexRefuses(t, "'''", 2)
	checkLexRefuses(t, "'a'b'", 4)
	checkLexRefuses(t, "'a'b'c", 4)
	checkLexRefuses(t, "'a' '", 4)
	checkLexRefuses(t, "'a b'", 0)
}

// What no token begins of is told where it stands, whatever is around it.
func TestBytesOfWhichNoTokenBegins(t *testing.T) {
	begins := " \t\n\r%'(),.:-+=#<!_abcdefghijklmnopqrstuvwxyzABCDEFGHIJKLMNOPQRSTUVWXYZ0123456789"
	for c := range 256 {
		b := string([]byte{byte(c)})
		if strings.Contains(begins, b) {
			if got, place := impl.Lex(b); c != '\'' && place != -1 {
				t.Errorf("%q: %v %d", b, got, place)
			}
			continue
		}
		checkLexRefuses(t, b, 0)
		checkLexRefuses(t, b+" a", 0)
		checkLexRefuses(t, "  "+b, 2)
		checkLexRefuses(t, "a"+b+"c", 1)
		checkLexRefuses(t, "1"+b, 1)
		checkLexRefuses(t, "Ab"+b+b, 2)
		checkLexRefuses(t, "a(X, 'b') "+b, 10)
		checkLexRefuses(t, "% "+b+"\n"+b, 4)
		if b != ">" {
			checkLexRefuses(t, "-"+b, 1)
		}
	}
	checkLexRefuses(t, "\u00e4", 0)
	checkLexRefuses(t, "a\u00e4", 1)
	checkLexRefuses(t, "A \u20ac", 2)
	checkLexRefuses(t, "a\u00a0b", 1)
}

// The first that is none is told, not a later one.
func TestTheFirstPlaceIsTold(t *testing.T) {
	for s, want := range map[string]int{"; ;": 0, "a ; 'b": 2, "01 ;": 0, "a 01 'A'": 2, "a 'A' 01": 2, "a thirteenbytes ;": 2, "a 1000000001 ;": 2, "a Thirteenbytes ;": 2, "% ;\n a ; ;": 7} {
		checkLexRefuses(t, s, want)
	}
}

func TestLexAtTheLimitOfTokens(t *testing.T) {
	for s, x := range textsOfTokens() {
		text := strings.Repeat(s+" ", impl.MaxTokens)
		if got, place := impl.Lex(text + "\t% a remark"); place != -1 || len(got) != impl.MaxTokens || got[0] != x || got[impl.MaxTokens-1] != x {
			t.Errorf("%q: %d tokens, %d", s, len(got), place)
		}
		checkLexRefuses(t, text+s, len(text))
		checkLexRefuses(t, text+" %\n"+s+" ;", len(text)+3)
		checkLexRefuses(t, text+s+" "+s, len(text))
		checkLexRefuses(t, text+";", len(text))
		checkLexRefuses(t, text+"'", len(text))
		checkLexRefuses(t, text+"01", len(text))
		checkLexRefuses(t, "; "+text+s, 0)
	}
	packed := strings.Repeat("(", impl.MaxTokens)
	if got, place := impl.Lex(packed); place != -1 || len(got) != impl.MaxTokens {
		t.Error(len(got), place)
	}
	checkLexRefuses(t, packed+")", impl.MaxTokens)
	checkLexRefuses(t, strings.Repeat("->", impl.MaxTokens+1), 2*impl.MaxTokens)
	checkLexRefuses(t, strings.Repeat("a ", 100000), 2*impl.MaxTokens)
	if got, place := impl.Lex(strings.Repeat("%(\n", 10000) + packed); place != -1 || len(got) != impl.MaxTokens {
		t.Error("remarks are no tokens:", len(got), place)
	}
}

var (
	toPass  = regexp.MustCompile(`\A(?:[ \t\n\r]|%[^\n]*)*`)
	toTake  = regexp.MustCompile(`\A(?:([0-9]+)|([a-z][a-z0-9_]*)|([A-Z][A-Za-z0-9_]*)|'([^']*)'|(->|[-(),.:+=#<!_]))`)
	allowed = regexp.MustCompile(`\A[a-z0-9_]{0,20}\z`)
)

// lexByForms is the chapter's Lex by other means.
func lexByForms(s string) ([]impl.Token, int) {
	var l []impl.Token
	at := 0
	for {
		at += len(toPass.FindString(s[at:]))
		if at == len(s) {
			return l, -1
		}
		m := toTake.FindStringSubmatch(s[at:])
		if m == nil || len(l) == 3000 {
			return nil, at
		}
		x, ok := kmark(m[5]), true
		switch {
		case m[1] != "":
			n, err := strconv.Atoi(m[1])
			x, ok = kint(n), err == nil && n <= 1000000000 && (m[1] == "0" || m[1][0] != '0')
		case m[2] != "":
			x, ok = kname(m[2]), len(m[2]) <= 12
		case m[3] != "":
			x, ok = kvar(m[3]), len(m[3]) <= 12
		case m[0][0] == '\'':
			x, ok = ktext(m[4]), allowed.MatchString(m[4])
		}
		if !ok {
			return nil, at
		}
		l, at = append(l, x), at+len(m[0])
	}
}

func checkLexByForms(t *testing.T, s string) {
	t.Helper()
	got, place := impl.Lex(s)
	if want, wantPlace := lexByForms(s); place != wantPlace || !slices.Equal(got, want) {
		t.Fatalf("%q: %v %d, not %v %d", s, got, place, want, wantPlace)
	}
	if again, place2 := impl.Lex(impl.JoinTokens(got)); place == -1 && (place2 != -1 || !slices.Equal(again, got)) {
		t.Fatalf("%q: %v comes back as %v %d", s, got, again, place2)
	}
}

func TestLexOfAllShortTexts(t *testing.T) {
	letters := "aB01_->'%\n (;"
	texts := []string{""}
	for range 4 {
		var longer []string
		for _, s := range texts {
			for _, c := range letters {
				longer = append(longer, s+string(c))
			}
		}
		for _, s := range longer {
			checkLexByForms(t, s)
		}
		texts = longer
	}
}

func TestLexOfManyTexts(t *testing.T) {
	r := rand.New(rand.NewPCG(5, 5))
	pieces := append(sortedKeys(textsOfTokens()), " ", " ", "\n", "\t", "\r", "% r\n", "a", "B", "0", "7", "_", "'", "-", ">", twelve, twelveVar)
	for range 20000 {
		var b strings.Builder
		for range r.IntN(30) {
			// Most pieces stand apart, or hardly a text would be good to its end.
			b.WriteString(pieces[r.IntN(len(pieces))])
			if r.IntN(4) > 0 {
				b.WriteByte(' ')
			}
		}
		checkLexByForms(t, b.String())
	}
}

func TestTokensComeBack(t *testing.T) {
	good := goodTokens()
	back := func(l []impl.Token) {
		t.Helper()
		if got, place := impl.Lex(impl.JoinTokens(l)); place != -1 || !slices.Equal(got, l) {
			t.Errorf("%v: %v %d", l, got, place)
		}
	}
	back(nil)
	back(good)
	for _, a := range good {
		back(tokens(a))
		for _, b := range good {
			back(tokens(a, b))
			back(tokens(a, b, a))
		}
	}
	r := rand.New(rand.NewPCG(1, 2))
	for _, n := range []int{10, 100, impl.MaxTokens - 1, impl.MaxTokens} {
		l := make([]impl.Token, n)
		for i := range l {
			l[i] = good[r.IntN(len(good))]
		}
		back(l)
	}
	many := slices.Repeat(tokens(kname("ab")), impl.MaxTokens+1)
	checkLexRefuses(t, impl.JoinTokens(many), 3*impl.MaxTokens)
}

func TestJoinTokens(t *testing.T) {
	for _, x := range []struct {
		l    []impl.Token
		want string
	}{
		{nil, ""}, {tokens(), ""}, {[]impl.Token{}, ""},
		{tokens(kint(0)), "0"}, {tokens(ktext("")), "''"}, {tokens(kmark("->")), "->"},
		{tokens(kname("rule"), kname("r1"), kmark("-"), kint(5), kmark(":"), kname("a"), kmark("("), kvar("X_1")), "rule r1 - 5 : a ( X_1"},
		{tokens(ktext("a"), ktext(""), kint(impl.MaxInt), kmark("_")), "'a' '' 1000000000 _"},
		{tokens(kmark("-"), kmark("->"), kmark("-")), "- -> -"},
	} {
		if got := impl.JoinTokens(x.l); got != x.want {
			t.Errorf("%v: %q, not %q", x.l, got, x.want)
		}
	}
}

// What is no token has no text, yet its blanks stand.
func TestJoinTokensOfWhatIsNone(t *testing.T) {
	for why, x := range wrongTokens() {
		for _, y := range []struct {
			l    []impl.Token
			want string
		}{
			{tokens(x), ""}, {tokens(x, x), " "}, {tokens(kname("a"), x), "a "}, {tokens(x, kname("a")), " a"}, {tokens(kname("a"), x, kint(1)), "a  1"}, {tokens(x, kname("a"), x), " a "},
		} {
			if got := impl.JoinTokens(y.l); got != y.want {
				t.Errorf("%s: %q, not %q", why, got, y.want)
			}
		}
	}
}

func TestJoinTokensOfMoreThanMayBeRead(t *testing.T) {
	l := slices.Repeat(tokens(kint(7)), 10000)
	if got := impl.JoinTokens(l); got != strings.Repeat("7 ", 9999)+"7" {
		t.Error(len(got))
	}
}

func TestJoinTokensWritesIntoNoArgument(t *testing.T) {
	all := append(goodTokens(), inOrder(wrongTokens())...)
	was := slices.Clone(all)
	for n := range all {
		got := impl.JoinTokens(all[:n])
		if strings.Count(got, " ") != max(n-1, 0) {
			t.Errorf("%d: %q", n, got)
		}
		if !slices.Equal(all, was) {
			t.Fatalf("%d: a token is written to", n)
		}
	}
}

// textOver is s as a text over bytes that a test may turn afterwards, so that what shares them is seen.
func textOver(s string) (string, func()) {
	if s == "" {
		return "", func() {}
	}
	b := []byte(s)
	return unsafe.String(&b[0], len(b)), func() {
		for i := range b {
			b[i] ^= 255
		}
	}
}

func TestLexSharesNoMemory(t *testing.T) {
	texts := sortedKeys(textsOfTokens())
	for _, s := range append(texts, strings.Join(texts, " "), "", "a 'b", "% \n") {
		in, turn := textOver(s)
		one, place := impl.Lex(in)
		two, _ := impl.Lex(in)
		if in != s {
			t.Errorf("%q: the text is written to", s)
		}
		turn()
		want, wantPlace := impl.Lex(s)
		if place != wantPlace || !slices.Equal(one, want) {
			t.Errorf("%q: %v turns with its argument", s, one)
		}
		spare := one[:cap(one)]
		for i := range spare {
			spare[i] = impl.Token{K: 9, N: 9, S: "no"}
		}
		if !slices.Equal(two, want) {
			t.Errorf("%q: two answers share memory", s)
		}
	}
}

func TestTextsOfTokensShareNoMemory(t *testing.T) {
	for s, x := range textsOfTokens() {
		in, turn := textOver(x.S)
		x.S = in
		one, two, three := impl.TokenText(x), impl.JoinTokens(tokens(x)), impl.JoinTokens(tokens(x, x))
		turn()
		if one != s || two != s || three != s+" "+s {
			t.Errorf("%q: %q %q %q", s, one, two, three)
		}
	}
}
