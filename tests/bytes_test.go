package tests

import (
	"bytes"
	"encoding/binary"
	"hash/crc32"
	"math"
	"strings"
	"testing"

	"loop.example/g00282/impl"
)

// numEdges are the numbers around which a group is added, a sign turns, or the limit is met.
func numEdges() []int {
	l := []int{0, 1, 2, 150, impl.MaxInt, impl.MaxInt - 1}
	for bits := 6; bits < 30; bits += 7 {
		l = append(l, 1<<bits-1, 1<<bits, 1<<bits+1)
	}
	for _, n := range l {
		l = append(l, -n)
	}
	return l
}

// guarded answers content with spare room behind it, and a function that tells whether any of both was written to.
func guarded(content string) ([]byte, func() bool) {
	const spare = "spare room that nobody may write to"
	all := []byte(content + spare)
	return all[:len(content)], func() bool { return string(all) == content+spare }
}

func TestMaxInt(t *testing.T) {
	if impl.MaxInt != 1000000000 {
		t.Error(impl.MaxInt)
	}
}

func TestPutNumBytes(t *testing.T) {
	for _, x := range []struct {
		n int
		s string
	}{
		{0, "\x00"}, {1, "\x02"}, {-1, "\x01"}, {-2, "\x03"}, {63, "\x7e"}, {-64, "\x7f"},
		{64, "\x80\x01"}, {-65, "\x81\x01"}, {8191, "\xfe\x7f"}, {-8192, "\xff\x7f"}, {8192, "\x80\x80\x01"},
		{impl.MaxInt, "\x80\xa8\xd6\xb9\x07"}, {-impl.MaxInt, "\xff\xa7\xd6\xb9\x07"},
	} {
		if b := impl.PutNum(nil, x.n); string(b) != x.s {
			t.Errorf("%d: %x", x.n, b)
		}
		if b := impl.PutNum([]byte("ab"), x.n); string(b) != "ab"+x.s {
			t.Errorf("behind others, %d: %x", x.n, b)
		}
	}
}

func TestPutNumBeyondMaxIntCountsAsThat(t *testing.T) {
	most, least := impl.PutNum(nil, impl.MaxInt), impl.PutNum(nil, -impl.MaxInt)
	for _, n := range []int{impl.MaxInt + 1, 2 * impl.MaxInt, 1 << 31, 1 << 32, math.MaxInt - 1, math.MaxInt} {
		if b := impl.PutNum(nil, n); !bytes.Equal(b, most) {
			t.Errorf("%d: %x", n, b)
		}
		if b := impl.PutNum(nil, -n); !bytes.Equal(b, least) {
			t.Errorf("%d: %x", -n, b)
		}
	}
	if b := impl.PutNum(nil, math.MinInt); !bytes.Equal(b, least) {
		t.Errorf("the least int: %x", b)
	}
}

func TestNumbersComeBack(t *testing.T) {
	for _, n := range numEdges() {
		b := impl.PutNum([]byte{0x80, 7}, n)
		if want := binary.AppendVarint([]byte{0x80, 7}, int64(n)); !bytes.Equal(b, want) {
			t.Errorf("%d: %x, not %x", n, b, want)
		}
		if got, next, ok := impl.GetNum(b, 2); !ok || got != n || next != len(b) {
			t.Errorf("%d: %d %d %v", n, got, next, ok)
		}
		longer := append(b, 0xff, 0xff)
		if got, next, ok := impl.GetNum(longer, 2); !ok || got != n || next != len(b) {
			t.Errorf("with bytes behind, %d: %d %d %v", n, got, next, ok)
		}
	}
}

func TestManyNumbersComeBack(t *testing.T) {
	for n := -20000; n <= 20000; n++ {
		b := impl.PutNum(nil, n)
		if got, next, ok := impl.GetNum(b, 0); !ok || got != n || next != len(b) {
			t.Fatalf("%d: %d %d %v", n, got, next, ok)
		}
	}
	for n := -impl.MaxInt; n <= impl.MaxInt; n += 99991 {
		b := impl.PutNum(nil, n)
		if got, next, ok := impl.GetNum(b, 0); !ok || got != n || next != len(b) {
			t.Fatalf("%d: %d %d %v", n, got, next, ok)
		}
	}
}

func TestNumbersInARow(t *testing.T) {
	var b []byte
	for _, n := range numEdges() {
		b = impl.PutNum(b, n)
	}
	at := 0
	for _, n := range numEdges() {
		got, next, ok := impl.GetNum(b, at)
		if !ok || got != n {
			t.Fatalf("at %d: %d %v, not %d", at, got, ok, n)
		}
		at = next
	}
	if at != len(b) {
		t.Error(at, len(b))
	}
}

func TestGetNumRefuses(t *testing.T) {
	for _, x := range []struct {
		why string
		b   string
		at  int
	}{
		{"nothing", "", 0},
		{"the end", "\x02", 1},
		{"past the end", "\x02", 2},
		{"far past the end", "\x02", math.MaxInt},
		{"below nought", "\x02", -1},
		{"far below nought", "\x02", math.MinInt},
		{"not whole", "\x80", 0},
		{"not whole, of two", "\x80\x80", 0},
		{"not whole, of four", "\xff\xff\xff\xff", 0},
		{"not whole, of five", "\x80\x80\x80\x80\x80", 0},
		{"a last group of 0", "\x80\x00", 0},
		{"a last group of 0 behind 1", "\x81\x00", 0},
		{"a last group of 0, of three", "\x80\x81\x00", 0},
		{"a last group of 0, of five", "\x80\x80\x80\x80\x00", 0},
		{"six bytes", "\x80\x80\x80\x80\x80\x01", 0},
		{"six bytes, the last 0", "\x80\x80\x80\x80\x80\x00", 0},
		{"bits that run out of an int", strings.Repeat("\x80", 9) + "\x02", 0},
		{"a group behind all of an int's bits", "\x82" + strings.Repeat("\x80", 9) + "\x01", 0},
		{"one below -MaxInt", "\x81\xa8\xd6\xb9\x07", 0},
		{"one above MaxInt", "\x82\xa8\xd6\xb9\x07", 0},
		{"32 bits", "\xff\xff\xff\xff\x0f", 0},
		{"32 bits and one", "\x80\x80\x80\x80\x10", 0},
		{"all five groups", "\xff\xff\xff\xff\x7f", 0},
	} {
		if n, next, ok := impl.GetNum([]byte(x.b), x.at); n != 0 || next != 0 || ok {
			t.Errorf("%s: %d %d %v", x.why, n, next, ok)
		}
	}
	if _, _, ok := impl.GetNum(nil, 0); ok {
		t.Error("nil")
	}
}

func TestGetNumReadsNothingBehindTheLength(t *testing.T) {
	all := []byte{0x80, 0x01}
	if _, _, ok := impl.GetNum(all[:1], 0); ok {
		t.Error("the second byte lies behind the length")
	}
	if _, _, ok := impl.GetNum(all[:0], 0); ok {
		t.Error("both bytes lie behind the length")
	}
}

// What is read is the only form of its number: no two lists of bytes are one number.
func TestGetNumTakesOneFormOnly(t *testing.T) {
	for x := range 1 << 16 {
		b := []byte{byte(x), byte(x >> 8)}
		if n, next, ok := impl.GetNum(b, 0); ok && !bytes.Equal(impl.PutNum(nil, n), b[:next]) {
			t.Fatalf("%x: %d %d", b, n, next)
		}
	}
}

func TestTextBytes(t *testing.T) {
	for _, x := range []struct{ s, want string }{
		{"", "\x00"}, {"a", "\x02a"}, {"xyz", "\x06xyz"}, {"\x00\xff", "\x04\x00\xff"},
		{strings.Repeat("q", 63), "\x7e" + strings.Repeat("q", 63)},
		{strings.Repeat("q", 64), "\x80\x01" + strings.Repeat("q", 64)},
	} {
		if b := impl.PutText(nil, x.s); string(b) != x.want {
			t.Errorf("%q: %x", x.s, b)
		}
		if b := impl.PutText([]byte{1, 2}, x.s); string(b) != "\x01\x02"+x.want {
			t.Errorf("behind others, %q: %x", x.s, b)
		}
	}
}

func TestTextsComeBack(t *testing.T) {
	var all []byte
	texts := []string{"", "a", "\x00", "\xff\xfe", "\u00e4\u20ac", "two words\n", strings.Repeat("z", 63), strings.Repeat("z", 64), strings.Repeat("ab", 10000), ""}
	for _, s := range texts {
		b := impl.PutText([]byte{200}, s)
		if got, next, ok := impl.GetText(b, 1); !ok || got != s || next != len(b) {
			t.Errorf("%.20q: %.20q %d %v", s, got, next, ok)
		}
		all = impl.PutText(all, s)
	}
	at := 0
	for _, s := range texts {
		got, next, ok := impl.GetText(all, at)
		if !ok || got != s {
			t.Fatalf("in a row, %.20q: %.20q %d %v", s, got, next, ok)
		}
		at = next
	}
	if at != len(all) {
		t.Error(at, len(all))
	}
}

func TestGetTextRefuses(t *testing.T) {
	for _, x := range []struct {
		why string
		b   string
		at  int
	}{
		{"nothing", "", 0},
		{"the end", "\x00", 1},
		{"past the end", "\x00", 2},
		{"far past the end", "\x00", math.MaxInt},
		{"below nought", "\x00", -1},
		{"far below nought", "\x00", math.MinInt},
		{"a length of -1", "\x01A", 0},
		{"a length of -2", "\x03AB", 0},
		{"a length of -MaxInt", "\xff\xa7\xd6\xb9\x07AB", 0},
		{"one byte too few", "\x04A", 0},
		{"no byte of one", "\x02", 0},
		{"a length of MaxInt", "\x80\xa8\xd6\xb9\x07AB", 0},
		{"a length beyond MaxInt", "\x82\xa8\xd6\xb9\x07AB", 0},
		{"a length that is not whole", "\x82", 0},
		{"a length whose last group is 0", "\x82\x00A", 0},
	} {
		if s, next, ok := impl.GetText([]byte(x.b), x.at); s != "" || next != 0 || ok {
			t.Errorf("%s: %q %d %v", x.why, s, next, ok)
		}
	}
	if _, _, ok := impl.GetText([]byte("\x04AB")[:2], 0); ok {
		t.Error("the last byte lies behind the length")
	}
}

func TestPuttingWritesIntoNoArgument(t *testing.T) {
	for _, content := range []string{"", "a", "\x80\x80", "abc"} {
		for _, n := range numEdges() {
			b, clean := guarded(content)
			impl.PutNum(b, n)
			if !clean() {
				t.Errorf("PutNum %q %d", content, n)
			}
		}
		for _, s := range []string{"", "x", "some text"} {
			b, clean := guarded(content)
			impl.PutText(b, s)
			if !clean() {
				t.Errorf("PutText %q %q", content, s)
			}
		}
	}
}

func TestReadingWritesIntoNoArgument(t *testing.T) {
	for _, content := range []string{"", "\x06xyz", "\x80", "\x80\x01more", "\x05xyz"} {
		b, clean := guarded(content)
		for at := -1; at <= len(content)+1; at++ {
			impl.GetNum(b, at)
			impl.GetText(b, at)
		}
		impl.Crc(b)
		if !clean() {
			t.Errorf("%q", content)
		}
	}
}

func TestPutAnswersShareNoMemory(t *testing.T) {
	for name, put := range map[string]func([]byte) []byte{
		"PutNum":           func(b []byte) []byte { return impl.PutNum(b, 5) },
		"PutText":          func(b []byte) []byte { return impl.PutText(b, "xyz") },
		"PutText of none":  func(b []byte) []byte { return impl.PutText(b, "") },
		"PutNum of MaxInt": func(b []byte) []byte { return impl.PutNum(b, impl.MaxInt) },
	} {
		b, clean := guarded("abc")
		one, two := put(b), put(b)
		want := string(two)
		for i := range one[:cap(one)] {
			one[:cap(one)][i] ^= 255
		}
		if !clean() {
			t.Error(name, "shares with its argument")
		}
		if string(two) != want {
			t.Error(name, "shares with another answer")
		}
		for i := range b {
			b[i] ^= 255
		}
		if string(two) != want {
			t.Error(name, "turns with its argument")
		}
	}
}

func TestGetTextSharesNoMemory(t *testing.T) {
	b := []byte("\x06xyz")
	s, _, _ := impl.GetText(b, 0)
	for i := range b {
		b[i] = 'q'
	}
	if s != "xyz" {
		t.Errorf("%q", s)
	}
}

func TestCrcIsAsTold(t *testing.T) {
	table := crc32.MakeTable(crc32.Castagnoli)
	b := []byte{}
	for i := range 600 {
		if got, want := impl.Crc(b), int(crc32.Checksum(b, table)); got != want {
			t.Fatalf("%d bytes: %x, not %x", i, got, want)
		}
		b = append(b, byte(i*i+7*i>>2))
	}
	for c := range 256 {
		one := []byte{byte(c)}
		if got, want := impl.Crc(one), int(crc32.Checksum(one, table)); got != want {
			t.Errorf("byte %d: %x, not %x", c, got, want)
		}
	}
	if impl.Crc(nil) != 0 || impl.Crc([]byte{}) != 0 {
		t.Error("of nothing")
	}
	if x := impl.Crc([]byte("123456789")); x != 0xe3069283 {
		t.Errorf("%x", x)
	}
	if x := impl.Crc(make([]byte, 32)); x != 0x8a9136aa {
		t.Errorf("noughts: %x", x)
	}
}

func TestCrcTurnsWithAnyOneBit(t *testing.T) {
	for _, size := range []int{1, 2, 3, 8, 33, 200} {
		b := make([]byte, size)
		for i := range b {
			b[i] = byte(31 * i)
		}
		whole := impl.Crc(b)
		seen := map[int]int{}
		for bit := range 8 * size {
			b[bit/8] ^= 1 << (bit % 8)
			x := impl.Crc(b)
			b[bit/8] ^= 1 << (bit % 8)
			if x == whole || x < 0 || x > 1<<32-1 {
				t.Errorf("bit %d of %d bytes: %x", bit, size, x)
			}
			seen[x]++
		}
		if len(seen) != 8*size {
			t.Errorf("%d bytes: %d sums for %d bits", size, len(seen), 8*size)
		}
	}
}

func TestCrcReadsNothingBehindTheLength(t *testing.T) {
	if impl.Crc([]byte("123456789abc")[:9]) != 0xe3069283 {
		t.Error("what lies behind the length is read")
	}
}

func TestNameOk(t *testing.T) {
	for _, s := range []string{"a", "z", "a_1", "order", "a0", "z9", "a_", "a__", "a0123456789z", "abcdefghijkl", "a___________"} {
		if !impl.NameOk(s) {
			t.Errorf("%q is a name", s)
		}
	}
	for _, s := range []string{"", "A", "aB", "1a", "9", "_a", "_", "a b", " a", "a ", "a-b", "a.", "abcdefghijklm", "thirteenbytes", strings.Repeat("a", 1000), "\u00e4", "a\u00e4", "a\x00", "\x00", "a\n", "a\xff"} {
		if impl.NameOk(s) {
			t.Errorf("%q is no name", s)
		}
	}
}

func TestNameOkByteByByte(t *testing.T) {
	const letters, others = "abcdefghijklmnopqrstuvwxyz", "0123456789_"
	for c := range 256 {
		s := string([]byte{byte(c)})
		if got, want := impl.NameOk(s), strings.Contains(letters, s); got != want {
			t.Errorf("byte %d alone: %v", c, got)
		}
		want := strings.Contains(letters+others, s)
		for _, name := range []string{"a" + s, "a" + s + "b", "abcdefghijk" + s} {
			if impl.NameOk(name) != want {
				t.Errorf("%q: %v", name, !want)
			}
		}
	}
}
