package tests

import (
	"math"
	"math/rand"
	"slices"
	"strings"
	"testing"
	"unsafe"

	"loop.example/g00315/impl"
)

// ofLength is a whole bundle with a payload of that many bytes.
func ofLength(many int) impl.Bundle {
	return impl.Bundle{From: 3, To: 9, Group: true, Made: 120, No: 77, Life: 4000, Hops: 6, Payload: mixedBytes(many)}
}

// partOf is a piece of a whole bundle: the bytes from begin up to behind.
func partOf(b impl.Bundle, begin int, behind int) impl.Bundle {
	b.Offset, b.Total, b.Payload = begin, len(b.Payload), b.Payload[begin:behind]
	return b
}

// plainCut takes one byte at a time, and starts a new piece where the last one is full.
func plainCut(b impl.Bundle, most int) []impl.Bundle {
	var l []impl.Bundle
	for at := range len(b.Payload) {
		if len(l) == 0 || len(l[len(l)-1].Payload) == most {
			l = append(l, partOf(b, at, at))
		}
		l[len(l)-1].Payload += b.Payload[at : at+1]
	}
	return l
}

func wantCut(t *testing.T, b impl.Bundle, most int) []impl.Bundle {
	t.Helper()
	l, ok := impl.CutBundle(b, most)
	if want := plainCut(b, most); !ok || !slices.Equal(l, want) {
		t.Fatalf("CutBundle(%#v, %d) = %#v, %v, not %#v", b, most, l, ok, want)
	}
	for _, x := range l {
		if !plainGood(x) {
			t.Fatalf("CutBundle(%#v, %d): %#v isn't good", b, most, x)
		}
	}
	return l
}

func wantNoCut(t *testing.T, b impl.Bundle, most int) {
	t.Helper()
	if l, ok := impl.CutBundle(b, most); len(l) != 0 || ok {
		t.Errorf("CutBundle(%#v, %d) = %#v, %v", b, most, l, ok)
	}
}

func wantNoCutPiece(t *testing.T, b impl.Bundle, at int) {
	t.Helper()
	if x, y, ok := impl.CutPiece(b, at); x != (impl.Bundle{}) || y != (impl.Bundle{}) || ok {
		t.Errorf("CutPiece(%#v, %d) = %#v, %#v, %v", b, at, x, y, ok)
	}
}

// wrongBundles are bundles that aren't good, each by one field, made of a good one.
func wrongBundles(b impl.Bundle) []impl.Bundle {
	var l []impl.Bundle
	for at := range numberFields(&b) {
		x := numberFields(&b)[at]
		for _, n := range []int{x.least - 1, x.most + 1, math.MinInt, math.MaxInt} {
			c := b
			*numberFields(&c)[at].field = n
			l = append(l, c)
		}
	}
	for _, change := range []func(*impl.Bundle){
		func(b *impl.Bundle) { b.Payload = mixedBytes(impl.MaxPayload + 1) },
		func(b *impl.Bundle) { b.Offset = -1 },
		func(b *impl.Bundle) { b.Offset = impl.MaxPayload },
		func(b *impl.Bundle) { b.Offset = math.MaxInt },
		func(b *impl.Bundle) { b.Offset = math.MinInt },
		func(b *impl.Bundle) { b.Total = -1 },
		func(b *impl.Bundle) { b.Total = impl.MaxPayload + 1 },
		func(b *impl.Bundle) { b.Total = math.MinInt },
		func(b *impl.Bundle) { b.Total = math.MaxInt },
	} {
		c := b
		change(&c)
		l = append(l, c)
	}
	return l
}

func TestCutBundleKnown(t *testing.T) {
	b := impl.Bundle{From: 1, To: 2, Made: 4, No: 5, Life: 6, Hops: 7, Payload: "hello world"}
	at := func(offset int, payload string) impl.Bundle {
		return impl.Bundle{From: 1, To: 2, Made: 4, No: 5, Life: 6, Hops: 7, Offset: offset, Total: 11, Payload: payload}
	}
	for _, x := range []struct {
		most int
		want []impl.Bundle
	}{
		{4, []impl.Bundle{at(0, "hell"), at(4, "o wo"), at(8, "rld")}},
		{6, []impl.Bundle{at(0, "hello "), at(6, "world")}},
		{10, []impl.Bundle{at(0, "hello worl"), at(10, "d")}},
		{11, []impl.Bundle{at(0, "hello world")}},
		{12, []impl.Bundle{at(0, "hello world")}},
		{impl.MaxPayload, []impl.Bundle{at(0, "hello world")}},
	} {
		if l, ok := impl.CutBundle(b, x.most); !ok || !slices.Equal(l, x.want) {
			t.Errorf("most %d: %#v, %v", x.most, l, ok)
		}
	}
}

func TestCutBundleEverySize(t *testing.T) {
	for many := 1; many <= impl.MaxPayload; many++ {
		for most := 1; most <= impl.MaxPayload; most++ {
			l := wantCut(t, ofLength(many), most)
			if want := (many + most - 1) / most; len(l) != want {
				t.Fatalf("%d bytes by %d: %d pieces, not %d", many, most, len(l), want)
			}
		}
	}
}

func TestCutBundleWrong(t *testing.T) {
	for _, most := range []int{0, -1, impl.MaxPayload + 1, math.MinInt, math.MaxInt} {
		wantNoCut(t, whole(), most)
		wantNoCut(t, ofLength(impl.MaxPayload), most)
	}
	none := whole()
	none.Payload = ""
	wrong := append(wrongBundles(whole()), none, piece(), partOf(whole(), 0, 5), partOf(whole(), 0, 1), impl.Bundle{})
	for _, b := range wrong {
		for _, most := range []int{0, 1, 3, 5, impl.MaxPayload} {
			wantNoCut(t, b, most)
		}
	}
}

func TestCutPieceEverywhere(t *testing.T) {
	b := ofLength(24)
	for begin := range 24 {
		for behind := begin + 1; behind <= 24; behind++ {
			p := partOf(b, begin, behind)
			for at := -2; at <= 26; at++ {
				if at < 1 || at > behind-begin-1 {
					wantNoCutPiece(t, p, at)
					continue
				}
				x, y, ok := impl.CutPiece(p, at)
				if x != partOf(b, begin, begin+at) || y != partOf(b, begin+at, behind) || !ok {
					t.Fatalf("CutPiece(%#v, %d) = %#v, %#v, %v", p, at, x, y, ok)
				}
			}
		}
	}
}

func TestCutPieceEdges(t *testing.T) {
	b := ofLength(impl.MaxPayload)
	p := partOf(b, 0, impl.MaxPayload)
	for _, at := range []int{1, impl.MaxPayload - 1} {
		x, y, ok := impl.CutPiece(p, at)
		if x != partOf(b, 0, at) || y != partOf(b, at, impl.MaxPayload) || !ok {
			t.Errorf("CutPiece(%#v, %d) = %#v, %#v, %v", p, at, x, y, ok)
		}
	}
	for _, at := range []int{0, impl.MaxPayload, impl.MaxPayload + 1, -1, math.MinInt, math.MaxInt} {
		wantNoCutPiece(t, p, at)
	}
	for _, at := range []int{-1, 0, 1, 2} {
		wantNoCutPiece(t, partOf(b, 7, 8), at)
	}
}

func TestCutPieceWrong(t *testing.T) {
	none := piece()
	none.Payload = ""
	wrong := append(wrongBundles(piece()), none, whole(), ofLength(impl.MaxPayload), ofLength(0), impl.Bundle{})
	for _, b := range wrong {
		for _, at := range []int{-1, 0, 1, 2, 4, 5, math.MinInt, math.MaxInt} {
			wantNoCutPiece(t, b, at)
		}
	}
}

// apart asks that no two of the texts share memory.
func apart(t *testing.T, what string, l ...string) {
	t.Helper()
	for i, a := range l {
		for _, b := range l[:i] {
			first, second := uintptr(unsafe.Pointer(unsafe.StringData(a))), uintptr(unsafe.Pointer(unsafe.StringData(b)))
			if first < second+uintptr(len(b)) && second < first+uintptr(len(a)) {
				t.Errorf("%s: %q and %q share memory", what, a, b)
			}
		}
	}
}

func TestCutsNewMemory(t *testing.T) {
	b := ofLength(20)
	b.Payload = strings.Clone(b.Payload)
	for _, most := range []int{7, 20, impl.MaxPayload} {
		texts := []string{b.Payload}
		for _, x := range wantCut(t, b, most) {
			texts = append(texts, x.Payload)
		}
		apart(t, "CutBundle", texts...)
	}
	p := partOf(b, 2, 12)
	x, y, _ := impl.CutPiece(p, 4)
	apart(t, "CutPiece", b.Payload, x.Payload, y.Payload)
}

func TestCutBundleMixed(t *testing.T) {
	r := rand.New(rand.NewSource(41))
	for range 3000 {
		b, most := someBundle(r), 1+r.Intn(impl.MaxPayload)
		if b.Total == 0 && b.Payload != "" {
			wantCut(t, b, most)
		} else {
			wantNoCut(t, b, most)
		}
	}
}
