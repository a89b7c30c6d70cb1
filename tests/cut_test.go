package tests

import (
	"bytes"
	"math"
	"testing"

	"loop.example/ternfrag/impl"
)

// piece is p's part with the bytes from..to of its own.
func piece(p impl.FragPacket, from int, to int, more bool) impl.FragPacket {
	p.Off += from
	p.More = more
	p.Data = p.Data[from:to]
	return p
}

// expectCut holds the pieces against places in p: a piece goes from each to the next one.
func expectCut(t *testing.T, p impl.FragPacket, most int, places ...int) {
	t.Helper()
	var want []impl.FragPacket
	for i := 0; i+1 < len(places); i++ {
		want = append(want, piece(p, places[i], places[i+1], i+2 < len(places) || p.More))
	}
	if list := mustCut(t, p, most); !sameList(list, want) {
		t.Errorf("%d bytes from %d on, More %v, cut with %d: %+v, not %+v", len(p.Data), p.Off, p.More, most, list, want)
	}
}

func TestCutOfPlainPackets(t *testing.T) {
	expectCut(t, plain(10), 12, 0, 4, 8, 10)
	expectCut(t, plain(10), 13, 0, 4, 8, 10)
	expectCut(t, plain(10), 16, 0, 8, 10)
	expectCut(t, plain(10), 17, 0, 8, 10)
	expectCut(t, plain(8), 12, 0, 4, 8)
	expectCut(t, plain(8), 15, 0, 4, 8)
	expectCut(t, plain(5), 12, 0, 4, 5)
	expectCut(t, plain(128), 135, 0, 124, 128)
	expectCut(t, plain(128), 131, 0, 120, 128)
	expectCut(t, plain(128), 72, 0, 64, 128)
}

// What is left is a piece as soon as it fits, even where it has more bytes than the pieces ahead of it.
func TestCutEndsWithWhatFits(t *testing.T) {
	expectCut(t, plain(18), 18, 0, 8, 18)
	expectCut(t, plain(19), 18, 0, 8, 16, 19)
	expectCut(t, plain(7), 14, 0, 4, 7)
	expectCut(t, plain(10), 14, 0, 4, 10)
	expectCut(t, plain(15), 15, 0, 4, 8, 15)
	expectCut(t, plain(11), 15, 0, 4, 11)
}

func TestCutOfPieces(t *testing.T) {
	p := changed(func(p *impl.FragPacket) { p.Off, p.Data = 16, numbered(22) })
	expectCut(t, p, 16, 0, 8, 16, 22)
	expectCut(t, p, 29, 0, 20, 22)
	expectCut(t, p, 30, 0, 22)
	p = changed(func(p *impl.FragPacket) { p.Off, p.More, p.Data = 16, true, numbered(24) })
	expectCut(t, p, 16, 0, 8, 16, 24)
	expectCut(t, p, 31, 0, 20, 24)
	expectCut(t, p, 32, 0, 24)
	p = changed(func(p *impl.FragPacket) { p.More, p.Data = true, numbered(128) })
	expectCut(t, p, 135, 0, 124, 128)
	p = changed(func(p *impl.FragPacket) { p.Off, p.Data = 120, numbered(8) })
	expectCut(t, p, 12, 0, 4, 8)
}

func TestCutOfWhatFits(t *testing.T) {
	for _, c := range okPackets() {
		for _, most := range []int{8 + len(c.packet.Data), 9 + len(c.packet.Data), 136, 137, math.MaxInt} {
			if most >= 12 {
				expectCut(t, c.packet, most, 0, len(c.packet.Data))
			}
		}
	}
	expectCut(t, plain(0), 12, 0, 0)
	expectCut(t, plain(4), 12, 0, 4)
	expectCut(t, changed(func(p *impl.FragPacket) { p.Off, p.Data = 128, nil }), 12, 0, 0)
}

func expectRefused(t *testing.T, name string, p impl.FragPacket, most int, want int) {
	t.Helper()
	if list, code := impl.FragCut(p, most); code != want || len(list) != 0 {
		t.Errorf("%s, cut with %d: code %d, not %d; %d pieces", name, most, code, want, len(list))
	}
}

func TestCutRefused(t *testing.T) {
	tooSmall := []int{11, 10, 9, 8, 7, 4, 1, 0, -1, -12, math.MinInt, math.MinInt + 7}
	for _, c := range wrongPackets() {
		for _, most := range append([]int{12, 13, 16, 136, math.MaxInt}, tooSmall...) {
			expectRefused(t, c.name, c.packet, most, 1)
		}
	}
	for _, c := range okPackets() {
		for _, most := range tooSmall {
			expectRefused(t, c.name, c.packet, most, 2)
		}
	}
	for n := 5; n <= 128; n++ {
		p := plain(n)
		p.Whole = true
		for most := 12; most < 8+n; most++ {
			expectRefused(t, "Whole", p, most, 3)
		}
		expectCut(t, p, 8+n, 0, n)
		expectRefused(t, "Whole", p, 11, 2)
	}
}

// eachCut goes through all pieces and packets that may be cut, and each number that is worth it.
func eachCut(t *testing.T, ask func(p impl.FragPacket, most int, list []impl.FragPacket)) {
	for off := 0; off <= 128; off += 4 {
		for n := 0; off+n <= 128; n++ {
			for _, more := range []bool{false, true} {
				p := plain(n)
				p.Off, p.More = off, more
				if more && (n == 0 || n%4 != 0) {
					continue
				}
				for most := 12; most <= 12+n; most++ {
					ask(p, most, mustCut(t, p, most))
				}
			}
		}
	}
}

// Promise 2: the pieces are ok, none is too long, they lie behind each other and have all bytes.
func TestPiecesAreWhatWasCut(t *testing.T) {
	eachCut(t, func(p impl.FragPacket, most int, list []impl.FragPacket) {
		at, all := p.Off, []byte(nil)
		for i, q := range list {
			last := i == len(list)-1
			if !impl.FragOk(q) || impl.FragSize(q) > most || q.Off != at || q.More != (!last || p.More) {
				t.Fatalf("%d bytes from %d on, cut with %d: piece %d is %+v", len(p.Data), p.Off, most, i, q)
			}
			if !last && len(q.Data) != (most-8)/4*4 {
				t.Fatalf("%d bytes from %d on, cut with %d: piece %d has %d bytes", len(p.Data), p.Off, most, i, len(q.Data))
			}
			at += len(q.Data)
			all = append(all, q.Data...)
			q.Off, q.More, q.Data = p.Off, p.More, p.Data
			if !same(p, q) {
				t.Fatalf("%d bytes from %d on, cut with %d: piece %d is of another packet", len(p.Data), p.Off, most, i)
			}
		}
		if !bytes.Equal(all, p.Data) {
			t.Fatalf("%d bytes from %d on, cut with %d: other bytes", len(p.Data), p.Off, most)
		}
		if len(list) > 1 && len(list[len(list)-1].Data) == 0 {
			t.Fatalf("%d bytes from %d on, cut with %d: a last piece without bytes", len(p.Data), p.Off, most)
		}
	})
}

// Promise 2: cut again with the same number they are what they are; and with a greater one.
func TestPiecesCutAgainStay(t *testing.T) {
	eachCut(t, func(p impl.FragPacket, most int, list []impl.FragPacket) {
		for _, q := range list {
			for _, again := range []int{most, most + 1, math.MaxInt} {
				if !sameList(mustCut(t, q, again), []impl.FragPacket{q}) {
					t.Fatalf("%d bytes from %d on, cut with %d: %+v is cut again with %d", len(p.Data), p.Off, most, q, again)
				}
			}
		}
	})
}

// What is left behind the first piece is cut as a packet of its own would be.
func TestWhatIsLeftIsCutAlike(t *testing.T) {
	eachCut(t, func(p impl.FragPacket, most int, list []impl.FragPacket) {
		if len(list) == 1 {
			return
		}
		left := piece(p, len(list[0].Data), len(p.Data), p.More)
		if !sameList(mustCut(t, left, most), list[1:]) {
			t.Fatalf("%d bytes from %d on, cut with %d: what is left is cut otherwise", len(p.Data), p.Off, most)
		}
	})
}

// Pieces that are cut again with less have all bytes still, at their places.
func TestCutTwice(t *testing.T) {
	p := changed(func(p *impl.FragPacket) { p.Off, p.Data = 12, numbered(113) })
	for first := 12; first <= 121; first++ {
		for second := 12; second <= first; second++ {
			at, all := p.Off, []byte(nil)
			for _, q := range mustCut(t, p, first) {
				for _, r := range mustCut(t, q, second) {
					if !impl.FragOk(r) || impl.FragSize(r) > second || r.Off != at || r.More != (at+len(r.Data) < 125) {
						t.Fatalf("cut with %d and %d: %+v", first, second, r)
					}
					at += len(r.Data)
					all = append(all, r.Data...)
				}
			}
			if !bytes.Equal(all, p.Data) {
				t.Fatalf("cut with %d and %d: other bytes", first, second)
			}
		}
	}
}

func TestCutWritesNothing(t *testing.T) {
	for _, c := range append(okPackets(), wrongPackets()...) {
		p, around := roomy(c.packet)
		before := string(around)
		for most := -1; most <= 140; most++ {
			impl.FragCut(p, most)
		}
		if string(around) != before {
			t.Errorf("%s: something was written", c.name)
		}
	}
}

// expectNewMemory cuts p, and writes over the pieces one by one, and then over p.
func expectNewMemory(t *testing.T, p impl.FragPacket, most int) {
	t.Helper()
	p, around := roomy(p)
	before := string(around)
	list, other := mustCut(t, p, most), mustCut(t, p, most)
	want := deepCopies(list)
	for i := range list {
		scribble(list[i].Data)
		if string(around) != before {
			t.Fatalf("%d bytes cut with %d: piece %d shares bytes with the packet", len(p.Data), most, i)
		}
		if !sameList(list[i+1:], want[i+1:]) || !sameList(other, want) {
			t.Fatalf("%d bytes cut with %d: piece %d shares bytes with another one", len(p.Data), most, i)
		}
	}
	room := list[:cap(list)]
	clear(room)
	scribble(around)
	if !sameList(other, want) {
		t.Fatalf("%d bytes cut with %d: the packet shares memory with the pieces", len(p.Data), most)
	}
}

func TestCutIsNewMemory(t *testing.T) {
	for _, c := range okPackets() {
		for most := 12; most <= 137; most++ {
			if !c.packet.Whole || most >= 8+len(c.packet.Data) {
				expectNewMemory(t, c.packet, most)
			}
		}
	}
}
