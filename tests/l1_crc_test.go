package tests

import (
	"math"
	"math/rand"
	"strings"
	"testing"

	"loop.example/g00315/impl"
)

// plainCrc is the document's rule, step by step, without a table.
func plainCrc(crc int, b byte) int {
	crc ^= 256 * int(b)
	for range 8 {
		crc *= 2
		if crc > 65535 {
			crc ^= 69665
		}
	}
	return crc
}

func plainWithCrc(s string) string {
	crc := 65535
	for i := range len(s) {
		crc = plainCrc(crc, s[i])
	}
	return s + string([]byte{byte(crc / 256), byte(crc % 256)})
}

// mixedBytes are some bytes of all kinds, the same at each run.
func mixedBytes(many int) string {
	r := rand.New(rand.NewSource(int64(many)))
	b := make([]byte, many)
	for i := range b {
		b[i] = byte(r.Intn(256))
	}
	return string(b)
}

func TestCrcAddEach(t *testing.T) {
	for crc := range 65536 {
		for b := range 256 {
			if got, ok := impl.CrcAdd(crc, byte(b)); got != plainCrc(crc, byte(b)) || !ok {
				t.Fatalf("CrcAdd(%d, %d) = %d, %v", crc, b, got, ok)
			}
		}
	}
}

func TestCrcAddWrong(t *testing.T) {
	for _, crc := range []int{-1, -65535, -65536, math.MinInt, 65536, 65537, 69665, 1 << 20, 1 << 32, math.MaxInt} {
		for b := range 256 {
			if got, ok := impl.CrcAdd(crc, byte(b)); got != 0 || ok {
				t.Fatalf("CrcAdd(%d, %d) = %d, %v", crc, b, got, ok)
			}
		}
	}
}

func TestCrcOfKnown(t *testing.T) {
	for _, c := range []struct {
		s   string
		crc int
	}{
		{"", 65535}, {"123456789", 0x29B1}, {"A", 0xB915}, {"\x00", 0xE1F0}, {"\xff", 0xFF00}, {"\xff\xff", 0},
	} {
		if crc, ok := impl.CrcOf(c.s); crc != c.crc || !ok {
			t.Errorf("CrcOf(%x) = %x, %v, not %x", c.s, crc, ok, c.crc)
		}
	}
}

func TestCrcOfIsCrcAddOfEach(t *testing.T) {
	for many := 0; many <= impl.MaxBytes; many++ {
		s := mixedBytes(many)
		want := 65535
		for i := range many {
			want, _ = impl.CrcAdd(want, s[i])
		}
		if crc, ok := impl.CrcOf(s); crc != want || !ok {
			t.Fatalf("of %d bytes: %d, %v, not %d", many, crc, ok, want)
		}
	}
	for _, many := range []int{impl.MaxBytes + 1, impl.MaxBytes + 2, 5000} {
		if crc, ok := impl.CrcOf(mixedBytes(many)); crc != 0 || ok {
			t.Errorf("of %d bytes: %d, %v", many, crc, ok)
		}
	}
}

func TestWithCrcThereAndBack(t *testing.T) {
	for many := 0; many <= impl.MaxBytes-2; many++ {
		s := mixedBytes(many)
		whole, ok := impl.WithCrc(s)
		if whole != plainWithCrc(s) || !ok {
			t.Fatalf("of %d bytes: %x, %v", many, whole, ok)
		}
		if back, ok := impl.CheckCrc(whole); back != s || !ok {
			t.Fatalf("back of %d bytes: %x, %v", many, back, ok)
		}
	}
}

func TestWithCrcTooLong(t *testing.T) {
	for _, many := range []int{impl.MaxBytes - 1, impl.MaxBytes, impl.MaxBytes + 1, 5000} {
		s := mixedBytes(many)
		if whole, ok := impl.WithCrc(s); whole != "" || ok {
			t.Errorf("WithCrc of %d bytes: %x, %v", many, whole, ok)
		}
		if back, ok := impl.CheckCrc(plainWithCrc(s)); back != "" || ok {
			t.Errorf("CheckCrc of %d bytes and their sum: %x, %v", many, back, ok)
		}
	}
}

func TestCheckCrcWrong(t *testing.T) {
	for _, s := range []string{
		"", "\x00", "\xff", "1", "\x00\x00", "\xff\xfe", "\xfe\xff",
		"123456789\xb1\x29", // the lower byte first
		"123456789\x29", "123456789", "23456789\x29\xb1", "123456789\x29\xb1\x01",
		strings.Repeat("\x00", impl.MaxBytes),
	} {
		if back, ok := impl.CheckCrc(s); back != "" || ok {
			t.Errorf("CheckCrc(%x) = %x, %v", s, back, ok)
		}
	}
	if back, ok := impl.CheckCrc("\xff\xff"); back != "" || !ok {
		t.Errorf("of no bytes: %x, %v", back, ok)
	}
}

func TestCheckCrcSeesOneByteTurned(t *testing.T) {
	for _, many := range []int{0, 1, 2, 9, 100, impl.MaxBytes - 2} {
		whole, ok := impl.WithCrc(mixedBytes(many))
		if !ok {
			t.Fatalf("of %d bytes: no sum", many)
		}
		for at := range len(whole) {
			turned := []byte(whole)
			for by := 1; by < 256; by++ {
				turned[at] = whole[at] ^ byte(by)
				if back, ok := impl.CheckCrc(string(turned)); back != "" || ok {
					t.Fatalf("of %d bytes, that at %d turned by %d: %x, %v", many, at, by, back, ok)
				}
			}
		}
	}
}
