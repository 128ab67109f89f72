package impl

const MaxInt = 1000000000

// A number takes no more bytes than this, as 2 MaxInt has 31 bits.
const maxNumBytes = 5

const crcTurn = 2197175160

func PutNum(b []byte, n int) []byte {
	return putNums(copyWithRoom(b, maxNumBytes), n)
}

func GetNum(b []byte, at int) (int, int, bool) {
	folded, next, ok := getGroups(b, at)
	if !ok || folded > 2*MaxInt {
		return 0, 0, false
	}
	return unfoldSign(folded), next, true
}

func PutText(b []byte, s string) []byte {
	return addText(copyWithRoom(b, maxNumBytes+len(s)), s)
}

func GetText(b []byte, at int) (string, int, bool) {
	size, from, ok := GetNum(b, at)
	if !ok || size < 0 || size > len(b)-from {
		return "", 0, false
	}
	return string(b[from : from+size]), from + size, true
}

func Crc(b []byte) int {
	sum := ^uint32(0)
	for _, c := range b {
		sum = turnByte(sum, c)
	}
	return int(^sum)
}

func NameOk(s string) bool {
	return len(s) >= 1 && len(s) <= 12 && isSmall(s[0]) && allBytes(s, isWordByte)
}

// copyWithRoom keeps whatever is put behind b out of the caller's memory.
func copyWithRoom(b []byte, room int) []byte {
	out := make([]byte, len(b), len(b)+room)
	copy(out, b)
	return out
}

// putNums grows b itself, so b has to be the program's own.
func putNums(b []byte, ns ...int) []byte {
	for _, n := range ns {
		b = putGroups(b, foldSign(min(max(n, -MaxInt), MaxInt)))
	}
	return b
}

// addText grows b itself, so b has to be the program's own.
func addText(b []byte, s string) []byte {
	return append(putNums(b, len(s)), s...)
}

func putGroups(b []byte, folded int) []byte {
	for folded >= 128 {
		b = append(b, byte(folded%128+128))
		folded /= 128
	}
	return append(b, byte(folded))
}

func getGroups(b []byte, at int) (int, int, bool) {
	if at < 0 || at > len(b) {
		return 0, 0, false
	}
	folded := 0
	for i, c := range b[at:min(len(b), at+maxNumBytes)] {
		folded |= int(c&127) << (7 * i)
		if c < 128 {
			// A last group of 0 behind others would be a second form of the same number.
			return folded, at + i + 1, i == 0 || c != 0
		}
	}
	return 0, 0, false
}

func foldSign(n int) int {
	if n < 0 {
		return -2*n - 1
	}
	return 2 * n
}

func unfoldSign(folded int) int {
	if folded%2 == 1 {
		return -(folded + 1) / 2
	}
	return folded / 2
}

func turnByte(sum uint32, c byte) uint32 {
	sum ^= uint32(c)
	for range 8 {
		low := sum & 1
		sum >>= 1
		if low == 1 {
			sum ^= crcTurn
		}
	}
	return sum
}

func allBytes(s string, are func(byte) bool) bool {
	for i := range len(s) {
		if !are(s[i]) {
			return false
		}
	}
	return true
}

func isSmall(c byte) bool { return 'a' <= c && c <= 'z' }

func isDigit(c byte) bool { return '0' <= c && c <= '9' }

func isWordByte(c byte) bool { return isSmall(c) || isDigit(c) || c == '_' }
