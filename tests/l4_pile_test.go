package tests

import (
	"math/rand"
	"slices"
	"strings"
	"testing"

	"loop.example/g00315/impl"
)

// plainByte is the byte that a piece has at a place of the whole, if it has one.
func plainByte(b impl.Bundle, at int) (byte, bool) {
	if at < b.Offset || at >= b.Offset+len(b.Payload) {
		return 0, false
	}
	return b.Payload[at-b.Offset], true
}

// plainOneBundle asks for what all pieces of a pile have in common.
func plainOneBundle(a impl.Bundle, b impl.Bundle) bool {
	return a.From == b.From && a.To == b.To && a.Group == b.Group && a.Made == b.Made && a.No == b.No &&
		a.Life == b.Life && a.Total == b.Total
}

func plainLess(a impl.Bundle, b impl.Bundle) bool {
	return a.Offset < b.Offset || a.Offset == b.Offset && len(a.Payload) < len(b.Payload)
}

// plainPile holds each piece against each other one.
func plainPile(l []impl.Bundle) bool {
	if len(l) > 60 {
		return false
	}
	for i, b := range l {
		if !plainGood(b) || b.Total == 0 {
			return false
		}
		for _, a := range l[:i] {
			if !plainOneBundle(a, b) || !plainLess(a, b) {
				return false
			}
			for at := range 60 {
				x, in := plainByte(a, at)
				y, too := plainByte(b, at)
				if in && too && x != y {
					return false
				}
			}
		}
	}
	return true
}

// plainCovered asks all pieces for each place; the bytes there, and where they lie.
func plainCovered(l []impl.Bundle) ([]int, string) {
	var places []int
	var s []byte
	for at := range 60 {
		for _, b := range l {
			if x, in := plainByte(b, at); in {
				places = append(places, at)
				s = append(s, x)
				break
			}
		}
	}
	return places, string(s)
}

// plainWhole is the bundle that a good pile is of, if nothing of it is missing.
func plainWhole(l []impl.Bundle) (impl.Bundle, bool) {
	places, s := plainCovered(l)
	if len(l) == 0 || len(places) != l[0].Total {
		return impl.Bundle{}, false
	}
	b := l[0]
	for _, x := range l {
		if x.Hops < b.Hops {
			b.Hops = x.Hops
		}
	}
	b.Offset, b.Total, b.Payload = 0, 0, s
	return b, true
}

// checkPile asks all functions of a pile for what the document tells of it, good or not.
func checkPile(t *testing.T, l []impl.Bundle) bool {
	t.Helper()
	was, p := slices.Clone(l), impl.Pile{Pieces: l}
	good := plainPile(l)
	if ok := impl.GoodPile(p); ok != good {
		t.Fatalf("GoodPile(%#v) = %v", l, ok)
	}
	var places []int
	var whole impl.Bundle
	missing, all := 0, false
	if good {
		places, _ = plainCovered(l)
		whole, all = plainWhole(l)
		if len(l) > 0 {
			missing = l[0].Total - len(places)
		}
	}
	if got, ok := impl.Covered(p); !slices.Equal(got, places) || ok != good {
		t.Fatalf("Covered(%#v) = %v, %v, not %v", l, got, ok, places)
	}
	if got, ok := impl.MissingIn(p); got != missing || ok != good {
		t.Fatalf("MissingIn(%#v) = %v, %v, not %v", l, got, ok, missing)
	}
	if got, ok := impl.WholeOf(p); got != whole || ok != all {
		t.Fatalf("WholeOf(%#v) = %#v, %v, not %#v", l, got, ok, whole)
	}
	if !slices.Equal(l, was) {
		t.Fatalf("written into: %#v, once %#v", l, was)
	}
	return good
}

// plainAdd puts it behind all others and sorts.
func plainAdd(l []impl.Bundle, b impl.Bundle) ([]impl.Bundle, bool) {
	if !plainPile(l) || !plainGood(b) || b.Total == 0 {
		return nil, false
	}
	for _, x := range l {
		if plainOneBundle(x, b) && x.Offset == b.Offset && x.Payload == b.Payload {
			return slices.Clone(l), true
		}
	}
	next := append(slices.Clone(l), b)
	slices.SortStableFunc(next, func(x, y impl.Bundle) int {
		if plainLess(x, y) {
			return -1
		}
		if plainLess(y, x) {
			return 1
		}
		return 0
	})
	if !plainPile(next) {
		return nil, false
	}
	return next, true
}

// checkAdd adds and hands on what is there then.
func checkAdd(t *testing.T, l []impl.Bundle, b impl.Bundle) ([]impl.Bundle, bool) {
	t.Helper()
	was := slices.Clone(l)
	want, good := plainAdd(l, b)
	p, ok := impl.AddPiece(impl.Pile{Pieces: l}, b)
	if !slices.Equal(p.Pieces, want) || ok != good {
		t.Fatalf("AddPiece(%#v, %#v) = %#v, %v, not %#v, %v", l, b, p.Pieces, ok, want, good)
	}
	if !slices.Equal(l, was) {
		t.Fatalf("written into: %#v, once %#v", l, was)
	}
	return p.Pieces, ok
}

func wantAdded(t *testing.T, l []impl.Bundle, b impl.Bundle) []impl.Bundle {
	t.Helper()
	next, ok := checkAdd(t, l, b)
	if !ok {
		t.Fatalf("refused: AddPiece(%#v, %#v)", l, b)
	}
	checkPile(t, next)
	return next
}

func wantNotAdded(t *testing.T, what string, l []impl.Bundle, b impl.Bundle) {
	t.Helper()
	if p, ok := checkAdd(t, l, b); ok {
		t.Errorf("%s: AddPiece(%#v, %#v) = %#v", what, l, b, p)
	}
}

func wantBadPile(t *testing.T, what string, l ...impl.Bundle) {
	t.Helper()
	if checkPile(t, l) {
		t.Errorf("%s: %#v is good", what, l)
	}
	wantNotAdded(t, what, l, piece())
	for _, b := range l {
		wantNotAdded(t, what, l, b)
	}
}

func wantGoodPile(t *testing.T, what string, l ...impl.Bundle) {
	t.Helper()
	if !checkPile(t, l) {
		t.Errorf("%s: %#v isn't good", what, l)
	}
}

// wantTogether adds all, each on what was there then, and asks for the bundle itself.
func wantTogether(t *testing.T, b impl.Bundle, l []impl.Bundle) {
	t.Helper()
	var now []impl.Bundle
	for _, x := range l {
		now = wantAdded(t, now, x)
	}
	if w, ok := impl.WholeOf(impl.Pile{Pieces: now}); w != b || !ok {
		t.Fatalf("WholeOf(%#v) = %#v, %v, not %#v", now, w, ok, b)
	}
}

func shuffled(r *rand.Rand, l []impl.Bundle) []impl.Bundle {
	l = slices.Clone(l)
	r.Shuffle(len(l), func(i, j int) { l[i], l[j] = l[j], l[i] })
	return l
}

func backwards(l []impl.Bundle) []impl.Bundle {
	l = slices.Clone(l)
	slices.Reverse(l)
	return l
}

func TestPiecesTogetherKnown(t *testing.T) {
	b := impl.Bundle{From: 1, To: 2, Life: 5, Hops: 2, Payload: "hello world"}
	first, second, third := partOf(b, 0, 4), partOf(b, 4, 8), partOf(b, 8, 11)
	p, ok := impl.AddPiece(impl.Pile{}, third)
	if l, covered := impl.Covered(p); !ok || !covered || !slices.Equal(l, []int{8, 9, 10}) {
		t.Error(p, ok, l, covered)
	}
	if n, ok := impl.MissingIn(p); n != 8 || !ok {
		t.Error(n, ok)
	}
	p, _ = impl.AddPiece(p, first)
	if l, ok := impl.Covered(p); !ok || !slices.Equal(l, []int{0, 1, 2, 3, 8, 9, 10}) {
		t.Error(l, ok)
	}
	if w, ok := impl.WholeOf(p); w != (impl.Bundle{}) || ok {
		t.Error(w, ok)
	}
	p, ok = impl.AddPiece(p, second)
	if !ok || !slices.Equal(p.Pieces, []impl.Bundle{first, second, third}) {
		t.Error(p, ok)
	}
	if n, ok := impl.MissingIn(p); n != 0 || !ok {
		t.Error(n, ok)
	}
	if w, ok := impl.WholeOf(p); w != b || !ok {
		t.Error(w, ok)
	}
}

func TestPiecesTogetherInEveryOrder(t *testing.T) {
	r := rand.New(rand.NewSource(4))
	for _, many := range []int{1, 2, 3, 7, 30, 59, 60} {
		for _, most := range []int{1, 2, 3, 4, 5, 7, 10, 13, 29, 30, 31, 59, 60} {
			b := ofLength(many)
			l := wantCut(t, b, most)
			wantTogether(t, b, l)
			wantTogether(t, b, backwards(l))
			wantTogether(t, b, shuffled(r, l))
			twice := append(slices.Clone(l), shuffled(r, l)...)
			wantTogether(t, b, twice)
			wantTogether(t, b, shuffled(r, twice))
		}
	}
}

// cutSome cuts some of the pieces once more, and now and then leaves the uncut one too.
func cutSome(t *testing.T, r *rand.Rand, l []impl.Bundle) []impl.Bundle {
	t.Helper()
	var out []impl.Bundle
	for _, x := range l {
		if len(x.Payload) < 2 || r.Intn(2) == 0 {
			out = append(out, x)
			continue
		}
		y, z, ok := impl.CutPiece(x, 1+r.Intn(len(x.Payload)-1))
		if !ok {
			t.Fatalf("CutPiece(%#v): refused", x)
		}
		out = append(out, y, z)
		if r.Intn(3) == 0 {
			out = append(out, x)
		}
	}
	return out
}

func TestPiecesCutOnceMore(t *testing.T) {
	r := rand.New(rand.NewSource(44))
	for range 150 {
		b := ofLength(1 + r.Intn(impl.MaxPayload))
		l := cutSome(t, r, cutSome(t, r, wantCut(t, b, 4+r.Intn(impl.MaxPayload-3))))
		wantTogether(t, b, l)
		wantTogether(t, b, backwards(l))
		wantTogether(t, b, shuffled(r, append(slices.Clone(l), l[:len(l)/2]...)))
	}
}

func TestPileOfNone(t *testing.T) {
	wantGoodPile(t, "nil")
	wantGoodPile(t, "empty", []impl.Bundle{}...)
	p := impl.Pile{}
	if !impl.GoodPile(p) {
		t.Error("not good")
	}
	if l, ok := impl.Covered(p); len(l) != 0 || !ok {
		t.Error(l, ok)
	}
	if n, ok := impl.MissingIn(p); n != 0 || !ok {
		t.Error(n, ok)
	}
	if b, ok := impl.WholeOf(p); b != (impl.Bundle{}) || ok {
		t.Error(b, ok)
	}
}

func TestPileOfOneByte(t *testing.T) {
	b := ofLength(1)
	wantTogether(t, b, []impl.Bundle{partOf(b, 0, 1)})
	wantTogether(t, b, []impl.Bundle{partOf(b, 0, 1), partOf(b, 0, 1)})
	b.Payload = "\x00"
	wantTogether(t, b, []impl.Bundle{partOf(b, 0, 1)})
	other := partOf(b, 0, 1)
	other.Payload = "\x01"
	wantNotAdded(t, "another byte than 0", []impl.Bundle{partOf(b, 0, 1)}, other)
	wantNotAdded(t, "0 where another is", []impl.Bundle{other}, partOf(b, 0, 1))
}

func TestPileMisses(t *testing.T) {
	b := ofLength(impl.MaxPayload)
	all := wantCut(t, b, 1)
	if len(all) != impl.MaxPieces {
		t.Fatal(len(all))
	}
	wantGoodPile(t, "all", all...)
	for at := range all {
		l := slices.Delete(slices.Clone(all), at, at+1)
		wantGoodPile(t, "one missing", l...)
		if n, ok := impl.MissingIn(impl.Pile{Pieces: l}); n != 1 || !ok {
			t.Errorf("without %d: %d, %v", at, n, ok)
		}
		if w, ok := impl.WholeOf(impl.Pile{Pieces: l}); w != (impl.Bundle{}) || ok {
			t.Errorf("without %d: %#v, %v", at, w, ok)
		}
	}
}

func TestPileFull(t *testing.T) {
	b := ofLength(impl.MaxPayload)
	full := wantCut(t, b, 1)
	longer := partOf(b, 20, 22)
	wantNotAdded(t, "one more than MaxPieces", full, longer)
	for _, x := range full {
		x.Hops = 1
		if l := wantAdded(t, full, x); !slices.Equal(l, full) {
			t.Errorf("the same again: %#v", l)
		}
	}
	l := slices.Delete(slices.Clone(full), 30, 31)
	l = wantAdded(t, l, longer)
	if len(l) != impl.MaxPieces {
		t.Error(len(l))
	}
	wantNotAdded(t, "one more than MaxPieces", l, full[30])
	wantBadPile(t, "one more than MaxPieces", append(slices.Clone(full[:21]), append([]impl.Bundle{longer}, full[21:]...)...)...)
	many := make([]impl.Bundle, 0, 100)
	for begin := range 10 {
		for long := range 10 {
			many = append(many, partOf(b, begin, begin+1+long))
		}
	}
	wantGoodPile(t, "60 that overlap", many[:60]...)
	wantBadPile(t, "61 that overlap", many[:61]...)
	wantBadPile(t, "100 that overlap", many...)
}

func TestPileOverlaps(t *testing.T) {
	b := impl.Bundle{From: 1, To: 2, Life: 5, Hops: 2, Payload: "abcdefgh"}
	wantGoodPile(t, "within one another", partOf(b, 0, 8), partOf(b, 1, 7), partOf(b, 2, 6))
	wantGoodPile(t, "one place, unlike lengths", partOf(b, 2, 3), partOf(b, 2, 5), partOf(b, 2, 8))
	wantTogether(t, b, []impl.Bundle{partOf(b, 3, 8), partOf(b, 0, 5)})
	wantTogether(t, b, []impl.Bundle{partOf(b, 2, 8), partOf(b, 2, 5), partOf(b, 0, 3), partOf(b, 2, 3)})
	l := wantAdded(t, []impl.Bundle{partOf(b, 2, 3), partOf(b, 2, 8)}, partOf(b, 2, 5))
	if !slices.Equal(l, []impl.Bundle{partOf(b, 2, 3), partOf(b, 2, 5), partOf(b, 2, 8)}) {
		t.Errorf("%#v", l)
	}
	for begin := range 8 {
		for behind := begin + 1; behind <= 8; behind++ {
			old := []impl.Bundle{partOf(b, 2, 5)}
			for at := begin; at < behind; at++ {
				x := partOf(b, begin, behind)
				s := []byte(x.Payload)
				s[at-begin] ^= 32
				x.Payload = string(s)
				if _, ok := checkAdd(t, old, x); ok != (at < 2 || at > 4) {
					t.Errorf("%d..%d, another byte at %d: %v", begin, behind, at, ok)
				}
			}
		}
	}
}

func TestPileBytesDisagree(t *testing.T) {
	b := impl.Bundle{From: 1, To: 2, Life: 5, Hops: 2, Payload: "abcdefgh"}
	unlike := func(begin int, payload string) impl.Bundle {
		x := partOf(b, begin, begin+len(payload))
		x.Payload = payload
		return x
	}
	wantBadPile(t, "neighbours", partOf(b, 0, 4), unlike(3, "xe"))
	wantBadPile(t, "neighbours", partOf(b, 0, 4), unlike(2, "cxe"))
	wantBadPile(t, "not neighbours", partOf(b, 0, 7), partOf(b, 1, 2), unlike(6, "x"))
	wantBadPile(t, "at one place", partOf(b, 0, 3), unlike(0, "abxd"))
	wantBadPile(t, "same place and length", partOf(b, 0, 3), unlike(0, "abx"))
	wantNotAdded(t, "same place and length", []impl.Bundle{partOf(b, 0, 3)}, unlike(0, "abx"))
	wantNotAdded(t, "0 bytes", []impl.Bundle{partOf(b, 0, 3)}, unlike(2, "\x00d"))
	wantGoodPile(t, "0 bytes where nothing is", partOf(b, 0, 3), unlike(3, "\x00"), unlike(4, "\x00"))
	wantBadPile(t, "0 bytes, then others", unlike(0, "\x00\x00"), unlike(1, "b"))
}

func TestPileNotRising(t *testing.T) {
	b := ofLength(12)
	wantBadPile(t, "falling", partOf(b, 4, 8), partOf(b, 0, 4))
	wantBadPile(t, "the last one falls", partOf(b, 0, 2), partOf(b, 4, 8), partOf(b, 3, 9))
	wantBadPile(t, "lengths fall", partOf(b, 4, 8), partOf(b, 4, 7))
	wantBadPile(t, "twice the same", partOf(b, 4, 8), partOf(b, 4, 8))
	other := partOf(b, 4, 8)
	other.Hops = 0
	wantBadPile(t, "twice the same but for Hops", partOf(b, 4, 8), other)
}

// unlikeHeads are pieces each of another bundle than that of p, by one field.
func unlikeHeads(p impl.Bundle) []impl.Bundle {
	var l []impl.Bundle
	for _, change := range []func(*impl.Bundle){
		func(b *impl.Bundle) { b.From++ },
		func(b *impl.Bundle) { b.To++ },
		func(b *impl.Bundle) { b.Group = !b.Group },
		func(b *impl.Bundle) { b.Made++ },
		func(b *impl.Bundle) { b.No++ },
		func(b *impl.Bundle) { b.Life++ },
		func(b *impl.Bundle) { b.Total++ },
	} {
		b := p
		change(&b)
		l = append(l, b)
	}
	return l
}

func TestPileUnlikeHeads(t *testing.T) {
	b := ofLength(12)
	first, second, third := partOf(b, 0, 4), partOf(b, 4, 8), partOf(b, 8, 12)
	for _, x := range unlikeHeads(first) {
		wantBadPile(t, "the first", x, second, third)
		wantNotAdded(t, "the first", []impl.Bundle{second, third}, x)
		wantNotAdded(t, "the same place", []impl.Bundle{first}, x)
	}
	for _, x := range unlikeHeads(third) {
		wantBadPile(t, "the last", first, second, x)
		wantNotAdded(t, "the last", []impl.Bundle{first, second}, x)
	}
	for _, x := range unlikeHeads(second) {
		wantBadPile(t, "the middle one", first, x, third)
		wantNotAdded(t, "the middle one", []impl.Bundle{first, third}, x)
		wantGoodPile(t, "by itself", x)
	}
	second.Hops = 30
	third.Hops = 0
	wantGoodPile(t, "unlike Hops", first, second, third)
}

func TestPileHops(t *testing.T) {
	b := ofLength(12)
	at := func(begin int, behind int, hops int) impl.Bundle {
		x := partOf(b, begin, behind)
		x.Hops = hops
		return x
	}
	for _, hops := range [][3]int{{3, 4, 5}, {4, 3, 5}, {5, 4, 3}, {0, 30, 30}, {30, 0, 30}, {30, 30, 0}, {30, 30, 30}} {
		l := []impl.Bundle{at(0, 5, hops[0]), at(2, 9, hops[1]), at(9, 12, hops[2])}
		w, ok := impl.WholeOf(impl.Pile{Pieces: l})
		want := b
		want.Hops = min(hops[0], hops[1], hops[2])
		if w != want || !ok {
			t.Errorf("%v: %#v, %v", hops, w, ok)
		}
	}
	for _, first := range []int{0, 6, 30} {
		for _, second := range []int{0, 6, 7, 30} {
			old := []impl.Bundle{at(0, 5, 9), at(5, 9, first), at(9, 12, 9)}
			if l := wantAdded(t, old, at(5, 9, second)); !slices.Equal(l, old) {
				t.Errorf("Hops %d on %d: %#v", second, first, l)
			}
			for _, wrong := range []int{-1, 31} {
				wantNotAdded(t, "Hops beyond", old, at(5, 9, wrong))
			}
		}
	}
}

func TestPileWrongPieces(t *testing.T) {
	b := ofLength(12)
	first, second := partOf(b, 0, 4), partOf(b, 4, 8)
	none := second
	none.Payload = ""
	for _, x := range append(wrongBundles(second), none, b, ofLength(0), impl.Bundle{}, whole()) {
		wantBadPile(t, "alone", x)
		wantBadPile(t, "behind", first, x)
		wantBadPile(t, "ahead", x, partOf(b, 8, 12))
		wantNotAdded(t, "the first", nil, x)
		wantNotAdded(t, "the second", []impl.Bundle{first}, x)
		wantNotAdded(t, "where the good one is", []impl.Bundle{first, second}, x)
	}
}

// somePile is of pieces of one bundle, most often; some of them are spoilt.
func somePile(r *rand.Rand, b impl.Bundle) []impl.Bundle {
	var l []impl.Bundle
	for range r.Intn(7) {
		x := somePart(r, b)
		if next, ok := plainAdd(l, x); ok {
			l = next
		} else if r.Intn(4) == 0 {
			l = append(l, x)
		}
	}
	if r.Intn(8) == 0 {
		l = shuffled(r, l)
	}
	return l
}

func somePart(r *rand.Rand, b impl.Bundle) impl.Bundle {
	begin := r.Intn(len(b.Payload))
	x := partOf(b, begin, begin+1+r.Intn(len(b.Payload)-begin))
	x.Hops = r.Intn(31)
	switch r.Intn(12) {
	case 0:
		s := []byte(x.Payload)
		s[r.Intn(len(s))]++
		x.Payload = string(s)
	case 1:
		l := unlikeHeads(x)
		x = l[r.Intn(len(l))]
	case 2:
		l := wrongBundles(x)
		x = l[r.Intn(len(l))]
	}
	return x
}

func TestPilesMixed(t *testing.T) {
	r := rand.New(rand.NewSource(444))
	good := 0
	for range 20000 {
		b := ofLength(1 + r.Intn(9))
		l := somePile(r, b)
		if checkPile(t, l) {
			good++
		}
		if next, ok := checkAdd(t, l, somePart(r, b)); ok {
			checkPile(t, next)
		}
	}
	if good < 2000 || good > 19000 {
		t.Errorf("%d good ones of 20000 tell little", good)
	}
}

func TestPileBehindItsLength(t *testing.T) {
	b := ofLength(12)
	room := []impl.Bundle{partOf(b, 0, 4), partOf(b, 4, 8), partOf(b, 8, 12), impl.Bundle{From: -1}}
	was := slices.Clone(room)
	wantGoodPile(t, "two of four", room[:2]...)
	if n, ok := impl.MissingIn(impl.Pile{Pieces: room[:2]}); n != 4 || !ok {
		t.Error(n, ok)
	}
	for _, x := range []impl.Bundle{partOf(b, 9, 12), partOf(b, 0, 1), partOf(b, 4, 8)} {
		wantAdded(t, room[:2], x)
		wantAdded(t, room[:0], x)
	}
	if !slices.Equal(room, was) {
		t.Errorf("written behind the length: %#v", room)
	}
}

func TestPilesNewMemory(t *testing.T) {
	b := ofLength(12)
	l := []impl.Bundle{partOf(b, 0, 6), partOf(b, 6, 12)}
	for i := range l {
		l[i].Payload = strings.Clone(l[i].Payload)
	}
	was := slices.Clone(l)
	more := partOf(b, 3, 9)
	more.Payload = strings.Clone(more.Payload)
	for _, x := range []impl.Bundle{more, l[1]} {
		p, ok := impl.AddPiece(impl.Pile{Pieces: l}, x)
		if !ok {
			t.Fatal(p)
		}
		texts := []string{l[0].Payload, l[1].Payload, more.Payload}
		for _, y := range p.Pieces {
			texts = append(texts, y.Payload)
		}
		apart(t, "AddPiece", texts...)
		for i := range p.Pieces {
			p.Pieces[i] = impl.Bundle{}
		}
		if !slices.Equal(l, was) {
			t.Fatal("AddPiece's answer shares its argument's memory")
		}
	}
	for _, l := range [][]impl.Bundle{l, {partOf(b, 0, 12)}} {
		w, _ := impl.WholeOf(impl.Pile{Pieces: l})
		texts := []string{w.Payload}
		for _, x := range l {
			texts = append(texts, x.Payload)
		}
		apart(t, "WholeOf", texts...)
	}
}
