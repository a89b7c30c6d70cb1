package tests

import (
	"math"
	"testing"

	"loop.example/ternfrag/impl"
)

type named struct {
	name   string
	packet impl.FragPacket
}

// okPackets meet the limits exactly, or lie within them.
func okPackets() []named {
	return []named{
		{"plain", plain(8)},
		{"no bytes", plain(0)},
		{"one byte", plain(1)},
		{"odd bytes", plain(127)},
		{"all bytes", plain(128)},
		{"Src least", changed(func(p *impl.FragPacket) { p.Src = 0 })},
		{"Src most", changed(func(p *impl.FragPacket) { p.Src = 65535 })},
		{"Dst least", changed(func(p *impl.FragPacket) { p.Dst = 0 })},
		{"Dst most", changed(func(p *impl.FragPacket) { p.Dst = 65535 })},
		{"Src is Dst", changed(func(p *impl.FragPacket) { p.Dst = p.Src })},
		{"Kind least", changed(func(p *impl.FragPacket) { p.Kind = 1 })},
		{"Kind most", changed(func(p *impl.FragPacket) { p.Kind = 7 })},
		{"Id least", changed(func(p *impl.FragPacket) { p.Id = 0 })},
		{"Id most", changed(func(p *impl.FragPacket) { p.Id = 255 })},
		{"Hops least", changed(func(p *impl.FragPacket) { p.Hops = 1 })},
		{"Hops most", changed(func(p *impl.FragPacket) { p.Hops = 64 })},
		{"Whole", changed(func(p *impl.FragPacket) { p.Whole = true })},
		{"Whole, no bytes", changed(func(p *impl.FragPacket) { p.Whole, p.Data = true, nil })},
		{"Whole, odd bytes", changed(func(p *impl.FragPacket) { p.Whole, p.Data = true, numbered(7) })},
		{"Off one unit", changed(func(p *impl.FragPacket) { p.Off = 4 })},
		{"Off most, no bytes", changed(func(p *impl.FragPacket) { p.Off, p.Data = 128, nil })},
		{"Off up to the end", changed(func(p *impl.FragPacket) { p.Off = 120 })},
		{"Off, odd bytes up to the end", changed(func(p *impl.FragPacket) { p.Off, p.Data = 124, numbered(3) })},
		{"More, one unit", changed(func(p *impl.FragPacket) { p.More, p.Data = true, numbered(4) })},
		{"More, all bytes", changed(func(p *impl.FragPacket) { p.More, p.Data = true, numbered(128) })},
		{"More, Off up to the end", changed(func(p *impl.FragPacket) { p.More, p.Off = true, 120 })},
		{"empty list", changed(func(p *impl.FragPacket) { p.Data = []byte{} })},
	}
}

// wrongPackets each break one rule, most of them by one.
func wrongPackets() []named {
	return []named{
		{"nothing", impl.FragPacket{}},
		{"Src below", changed(func(p *impl.FragPacket) { p.Src = -1 })},
		{"Src above", changed(func(p *impl.FragPacket) { p.Src = 65536 })},
		{"Src greatest int", changed(func(p *impl.FragPacket) { p.Src = math.MaxInt })},
		{"Dst below", changed(func(p *impl.FragPacket) { p.Dst = -1 })},
		{"Dst above", changed(func(p *impl.FragPacket) { p.Dst = 65536 })},
		{"Dst least int", changed(func(p *impl.FragPacket) { p.Dst = math.MinInt })},
		{"Kind below", changed(func(p *impl.FragPacket) { p.Kind = 0 })},
		{"Kind above", changed(func(p *impl.FragPacket) { p.Kind = 8 })},
		{"Kind below zero", changed(func(p *impl.FragPacket) { p.Kind = -1 })},
		{"Id below", changed(func(p *impl.FragPacket) { p.Id = -1 })},
		{"Id above", changed(func(p *impl.FragPacket) { p.Id = 256 })},
		{"Hops below", changed(func(p *impl.FragPacket) { p.Hops = 0 })},
		{"Hops above", changed(func(p *impl.FragPacket) { p.Hops = 65 })},
		{"Hops below zero", changed(func(p *impl.FragPacket) { p.Hops = -1 })},
		{"Hops least int", changed(func(p *impl.FragPacket) { p.Hops = math.MinInt })},
		{"Off 1", changed(func(p *impl.FragPacket) { p.Off = 1 })},
		{"Off 2", changed(func(p *impl.FragPacket) { p.Off = 2 })},
		{"Off 3", changed(func(p *impl.FragPacket) { p.Off = 3 })},
		{"Off below", changed(func(p *impl.FragPacket) { p.Off = -4 })},
		{"Off above, no bytes", changed(func(p *impl.FragPacket) { p.Off, p.Data = 132, nil })},
		{"Off near the greatest int", changed(func(p *impl.FragPacket) { p.Off = math.MaxInt - 3 })},
		{"Off least int", changed(func(p *impl.FragPacket) { p.Off = math.MinInt })},
		{"Off most, a byte", changed(func(p *impl.FragPacket) { p.Off, p.Data = 128, numbered(1) })},
		{"Off, a byte past the end", changed(func(p *impl.FragPacket) { p.Off, p.Data = 124, numbered(5) })},
		{"Off, a unit past the end", changed(func(p *impl.FragPacket) { p.Off = 124 })},
		{"a byte too many", plain(129)},
		{"very many bytes", plain(70000)},
		{"More, no bytes", changed(func(p *impl.FragPacket) { p.More, p.Data = true, nil })},
		{"More, one byte", changed(func(p *impl.FragPacket) { p.More, p.Data = true, numbered(1) })},
		{"More, a byte beside a unit", changed(func(p *impl.FragPacket) { p.More, p.Data = true, numbered(9) })},
		{"More, Off and no bytes", changed(func(p *impl.FragPacket) { p.More, p.Off, p.Data = true, 128, nil })},
		{"Whole, Off", changed(func(p *impl.FragPacket) { p.Whole, p.Off = true, 4 })},
		{"Whole, More", changed(func(p *impl.FragPacket) { p.Whole, p.More = true, true })},
		{"Whole, Off and More", changed(func(p *impl.FragPacket) { p.Whole, p.Off, p.More = true, 4, true })},
	}
}

func TestOkAndSize(t *testing.T) {
	for _, c := range okPackets() {
		if !impl.FragOk(c.packet) {
			t.Errorf("%s: not ok", c.name)
		}
		if n := impl.FragSize(c.packet); n != 8+len(c.packet.Data) {
			t.Errorf("%s: size %d", c.name, n)
		}
	}
	for _, c := range wrongPackets() {
		if impl.FragOk(c.packet) {
			t.Errorf("%s: ok", c.name)
		}
		if n := impl.FragSize(c.packet); n != 0 {
			t.Errorf("%s: size %d", c.name, n)
		}
	}
}

// The rules of Off, More, Whole and the number of bytes, at all numbers around their limits.
func TestOkAtAllPlaces(t *testing.T) {
	for off := -9; off <= 137; off++ {
		for n := 0; n <= 133; n++ {
			for flags := range 4 {
				p := plain(n)
				p.Off, p.More, p.Whole = off, flags&1 != 0, flags&2 != 0
				want := off >= 0 && off%4 == 0 && off+n <= 128
				if p.More && (n == 0 || n%4 != 0) || p.Whole && (off != 0 || p.More) {
					want = false
				}
				if impl.FragOk(p) != want {
					t.Fatalf("Off %d, %d bytes, More %v, Whole %v: ok is not %v", off, n, p.More, p.Whole, want)
				}
			}
		}
	}
}

// Promise 9: a packet goes on for one hop less than its Hops.
func TestHopsUntilTheLast(t *testing.T) {
	for _, c := range okPackets() {
		for hops := 1; hops <= 64; hops++ {
			p := deepCopy(c.packet)
			p.Hops = hops
			for gone := 1; gone < hops; gone++ {
				next, code := impl.FragHop(p)
				want := p
				want.Hops = hops - gone
				if code != 0 || !same(next, want) {
					t.Fatalf("%s, hop %d of %d: %+v, code %d", c.name, gone, hops, next, code)
				}
				p = next
			}
			if next, code := impl.FragHop(p); code != 2 || !isNothing(next) {
				t.Fatalf("%s, behind %d hops: %+v, code %d", c.name, hops-1, next, code)
			}
		}
	}
}

func TestHopOfWhatIsNotOk(t *testing.T) {
	for _, c := range wrongPackets() {
		if next, code := impl.FragHop(c.packet); code != 1 || !isNothing(next) {
			t.Errorf("%s: %+v, code %d", c.name, next, code)
		}
	}
	p := plain(129)
	p.Hops = 1
	if next, code := impl.FragHop(p); code != 1 || !isNothing(next) {
		t.Errorf("not ok at its last hop: %+v, code %d", next, code)
	}
}

func TestHopIsNewMemory(t *testing.T) {
	for _, c := range okPackets() {
		p, around := roomy(c.packet)
		p.Hops = 9
		before := string(around)
		next, code := impl.FragHop(p)
		if code != 0 || string(around) != before {
			t.Fatalf("%s: code %d, or something was written", c.name, code)
		}
		other, _ := impl.FragHop(p)
		want := deepCopy(next)
		scribble(next.Data)
		if string(around) != before || !same(other, want) {
			t.Errorf("%s: the answer shares bytes with the argument or another answer", c.name)
		}
		scribble(around)
		if !same(other, want) {
			t.Errorf("%s: the argument shares bytes with the answer", c.name)
		}
	}
}

func TestAskingWritesNothing(t *testing.T) {
	for _, c := range append(okPackets(), wrongPackets()...) {
		p, around := roomy(c.packet)
		before := string(around)
		impl.FragOk(p)
		impl.FragSize(p)
		impl.FragHop(p)
		if string(around) != before {
			t.Errorf("%s: something was written", c.name)
		}
	}
}
