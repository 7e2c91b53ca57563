package impl

const MaxValue = 1000000000
const MaxBytes = 400

// mostNumbers is how many numbers a row of them may have.
const mostNumbers = 40

// Each byte of a number carries seven of its bits; the mark tells that more follow.
const (
	sevenBits = 7
	sdnvMark  = 1 << sevenBits
)

const maxCrc = 65535

// The polynomial (69665 without its highest bit, which falls out of the sum), moved up for each bit of a half byte.
// No move goes beyond sixteen bits, so a half byte's row is the xor of those of its bits.
const (
	crcBit0 = 0x1021 << iota
	crcBit1
	crcBit2
	crcBit3
)

// crcTable tells what four steps make of each half byte: sixteen rows do for any byte, in two turns.
var crcTable = [16]int{
	0,
	crcBit0,
	crcBit1,
	crcBit1 ^ crcBit0,
	crcBit2,
	crcBit2 ^ crcBit0,
	crcBit2 ^ crcBit1,
	crcBit2 ^ crcBit1 ^ crcBit0,
	crcBit3,
	crcBit3 ^ crcBit0,
	crcBit3 ^ crcBit1,
	crcBit3 ^ crcBit1 ^ crcBit0,
	crcBit3 ^ crcBit2,
	crcBit3 ^ crcBit2 ^ crcBit0,
	crcBit3 ^ crcBit2 ^ crcBit1,
	crcBit3 ^ crcBit2 ^ crcBit1 ^ crcBit0,
}

func SdnvOf(n int) (string, bool) {
	if !isNumber(n) {
		return "", false
	}
	return string(appendSdnv(nil, n)), true
}

func TakeSdnv(s string, at int) (int, int, bool) {
	if len(s) > MaxBytes || at < 0 || at >= len(s) {
		return 0, 0, false
	}
	if s[at] == sdnvMark { // a seven of noughts ahead: there is a shorter form
		return 0, 0, false
	}
	n := 0
	for i := at; i < len(s); i++ {
		n = n<<sevenBits | int(s[i]%sdnvMark)
		if n > MaxValue { // told here, ahead of the next seven, so that n never wraps round
			return 0, 0, false
		}
		if s[i] < sdnvMark {
			return n, i + 1, true
		}
	}
	return 0, 0, false
}

func SdnvList(l []int) (string, bool) {
	if len(l) > mostNumbers {
		return "", false
	}
	var out []byte
	for _, n := range l {
		if !isNumber(n) {
			return "", false
		}
		out = appendSdnv(out, n)
	}
	return string(out), true
}

func ReadSdnvs(s string) ([]int, bool) {
	if len(s) > MaxBytes {
		return nil, false
	}
	var l []int
	for at := 0; at < len(s); {
		n, behind, ok := TakeSdnv(s, at)
		if !ok || len(l) == mostNumbers {
			return nil, false
		}
		l = append(l, n)
		at = behind
	}
	return l, true
}

func CrcOf(s string) (int, bool) {
	if len(s) > MaxBytes {
		return 0, false
	}
	return crcOver(s), true
}

func WithCrc(s string) (string, bool) {
	if len(s) > MaxBytes-2 {
		return "", false
	}
	crc := crcOver(s)
	return s + string([]byte{byte(crc >> 8), byte(crc)}), true
}

func CheckCrc(s string) (string, bool) {
	if len(s) < 2 {
		return "", false
	}
	body := s[:len(s)-2]
	whole, ok := WithCrc(body)
	if !ok || whole != s {
		return "", false
	}
	return string([]byte(body)), true // a copy: body shares the memory of s
}

func CrcAdd(crc int, b byte) (int, bool) {
	if crc < 0 || crc > maxCrc {
		return 0, false
	}
	return crcByte(crc, b), true
}

func isNumber(n int) bool {
	return n >= 0 && n <= MaxValue
}

func appendSdnv(out []byte, n int) []byte {
	shift := 0
	for n>>shift >= sdnvMark {
		shift += sevenBits
	}
	for ; shift > 0; shift -= sevenBits {
		out = append(out, byte(n>>shift%sdnvMark+sdnvMark))
	}
	return append(out, byte(n%sdnvMark))
}

func crcOver(s string) int {
	crc := maxCrc
	for i := 0; i < len(s); i++ {
		crc = crcByte(crc, s[i])
	}
	return crc
}

func crcByte(crc int, b byte) int {
	return crcHalf(crcHalf(crc, int(b>>4)), int(b%16))
}

// crcHalf needs crc in 0..65535 and half in 0..15: the row it asks for is then one of the sixteen.
func crcHalf(crc int, half int) int {
	return crc<<4&maxCrc ^ crcTable[crc>>12^half]
}
