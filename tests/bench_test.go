package tests

import (
	"fmt"
	"math"
	"slices"
	"testing"

	"loop.example/ternfrag/impl"
)

// ofId is a piece of the packet that differs from the plain one in its Id alone.
func ofId(id int, p impl.FragPacket) impl.FragPacket {
	return altered(p, func(p *impl.FragPacket) { p.Id = id })
}

// withHops is a piece that went another way.
func withHops(hops int, p impl.FragPacket) impl.FragPacket {
	return altered(p, func(p *impl.FragPacket) { p.Hops = hops })
}

// crowd are n pieces that differ in Hops alone, so that they are never the same and never join.
func crowd(n int, p impl.FragPacket) []impl.FragPacket {
	var out []impl.FragPacket
	for i := range n {
		out = append(out, withHops(i+1, p))
	}
	return out
}

func waiting(since int, pieces ...impl.FragPacket) impl.FragSlot {
	return impl.FragSlot{Pieces: pieces, Since: since}
}

func spoilt(since int, pieces ...impl.FragPacket) impl.FragSlot {
	return impl.FragSlot{Pieces: pieces, Since: since, Bad: true}
}

func bench(now int, slots ...impl.FragSlot) impl.FragBench {
	return impl.FragBench{Now: now, Slots: slots}
}

// full is a bench with as many slots as there may be, of the packets 1, 2, 3 and 4.
func full(now int) impl.FragBench {
	return bench(now,
		waiting(now-5, ofId(1, part(0, 4, true)), ofId(1, part(8, 12, true))),
		spoilt(now-3, ofId(2, part(4, 8, true))),
		waiting(now-3, ofId(3, part(8, 10, false))),
		waiting(now, ofId(4, part(0, 8, true)), ofId(4, part(4, 8, true)), ofId(4, part(16, 17, false))))
}

func sameSlot(s impl.FragSlot, o impl.FragSlot) bool {
	return s.Since == o.Since && s.Bad == o.Bad && sameList(s.Pieces, o.Pieces)
}

func sameBench(b impl.FragBench, o impl.FragBench) bool {
	return b.Now == o.Now && slices.EqualFunc(b.Slots, o.Slots, sameSlot)
}

// copyBench is a bench that shares no memory with b, made without the program.
func copyBench(b impl.FragBench) impl.FragBench {
	out := impl.FragBench{Now: b.Now}
	for _, s := range b.Slots {
		s.Pieces = deepCopies(s.Pieces)
		out.Slots = append(out.Slots, s)
	}
	return out
}

type benchCase struct {
	name  string
	bench impl.FragBench
}

// okBenches meet the limits exactly, or lie within them.
func okBenches() []benchCase {
	out := []benchCase{
		{"nothing", impl.FragBench{}},
		{"no slots, but a list", impl.FragBench{Slots: []impl.FragSlot{}}},
		{"Now, no slots", bench(77)},
		{"the last tick, no slots", bench(1000000)},
		{"the last tick, a slot of it", bench(1000000, waiting(1000000, part(0, 4, true)))},
		{"the last tick, a slot of the eldest", bench(1000000, waiting(999995, part(0, 4, true)))},
		{"the tick 0, a slot", bench(0, waiting(0, part(0, 4, true)))},
		{"the tick 5, a slot of 0", bench(5, waiting(0, part(0, 4, true)))},
		{"a slot of Now", bench(50, waiting(50, part(4, 8, false)))},
		{"a slot of just above Now - FragLife", bench(50, waiting(45, part(4, 8, false)))},
		{"two slots of one Since", bench(50, waiting(48, part(4, 8, false)), waiting(48, ofId(1, part(4, 8, false))))},
		{"just so many slots", full(50)},
		{"just so many slots, at the last tick", full(1000000)},
		{"just so many slots, at the first tick for them", full(5)},
		{"just so many slots of one Since", bench(9, waiting(7, ofId(1, part(0, 4, true))), waiting(7, ofId(2, part(0, 4, true))), waiting(7, ofId(3, part(0, 4, true))), waiting(7, ofId(4, part(0, 4, true))))},
		{"a Bad one", bench(9, spoilt(8, part(0, 4, true)))},
		{"a Bad one that has the end", bench(9, spoilt(8, part(128, 128, false)))},
		{"just so many pieces", bench(9, waiting(8, crowd(40, part(0, 4, true))...))},
		{"one piece twice", bench(9, waiting(8, part(0, 4, true), part(0, 4, true)))},
	}
	for _, c := range whatIsMissing() {
		out = append(out, benchCase{c.name, bench(9, waiting(8, c.list...))})
	}
	for i, p := range foreign() {
		out = append(out, benchCase{fmt.Sprintf("foreign %d", i), bench(9, waiting(8, part(4, 8, true)), waiting(8, p))})
	}
	return out
}

// wrongSlots are slots that no bench may have, of the tick 9.
func wrongSlots() []impl.FragSlot {
	out := []impl.FragSlot{
		{},
		waiting(9),
		spoilt(9),
		{Pieces: []impl.FragPacket{}, Since: 9},
		waiting(9, crowd(41, part(0, 4, true))...),
		waiting(9, repeated(units(3), 41)...),
		spoilt(9, part(0, 4, true), part(4, 8, true)),
		spoilt(9, part(0, 4, true), part(0, 4, true)),
		spoilt(9, part(0, 4, true), lied(part(0, 4, true), 0)),
		spoilt(9, plain(8)),
		waiting(3, part(0, 4, true)),
		waiting(2, part(0, 4, true)),
		waiting(10, part(0, 4, true)),
		waiting(-1, part(0, 4, true)),
		waiting(math.MinInt, part(0, 4, true)),
		waiting(math.MaxInt, part(0, 4, true)),
		spoilt(3, part(0, 4, true)),
		spoilt(10, part(0, 4, true)),
	}
	for _, c := range slices.Concat(whatJoins(), whatDisagrees()) {
		out = append(out, waiting(9, c.list...))
	}
	for _, c := range wrongPackets() {
		out = append(out, waiting(9, c.packet), spoilt(9, c.packet), waiting(9, part(0, 4, true), c.packet))
	}
	for _, p := range foreign() {
		out = append(out, waiting(9, part(0, 4, true), p), waiting(9, p, part(0, 4, true)))
	}
	return out
}

// amongOthers puts a slot at each place of a bench of the tick 9, ahead of and behind good ones.
func amongOthers(slot impl.FragSlot) []impl.FragBench {
	ahead, behind := waiting(4, ofId(1, part(0, 4, true))), waiting(9, ofId(2, part(4, 8, true)))
	return []impl.FragBench{bench(9, slot), bench(9, ahead, slot), bench(9, slot, behind), bench(9, ahead, slot, behind)}
}

// wrongBenches each break one rule, most of them by one.
func wrongBenches() []benchCase {
	first, second := part(0, 4, true), ofId(1, part(0, 4, true))
	out := []benchCase{
		{"Now below", bench(-1)},
		{"Now below, a slot of it", bench(-1, waiting(-1, first))},
		{"Now below, a slot of 0", bench(-1, waiting(0, first))},
		{"Now least int", bench(math.MinInt)},
		{"Now least int, a slot", bench(math.MinInt, waiting(math.MinInt, first))},
		{"Now least int, a slot of the greatest", bench(math.MinInt, waiting(math.MaxInt, first))},
		{"Now above", bench(1000001)},
		{"Now above, a slot", bench(1000001, waiting(1000000, first))},
		{"Now greatest int", bench(math.MaxInt)},
		{"Since below 0, Now 0", bench(0, waiting(-1, first))},
		{"Since below 0, within life", bench(4, waiting(-1, first))},
		{"Since below 0, just behind life", bench(5, waiting(-1, first))},
		{"Since 0, just behind life", bench(6, waiting(0, first))},
		{"Since above Now, Now 0", bench(0, waiting(1, first))},
		{"Since above Now, the last tick", bench(1000000, waiting(1000001, first))},
		{"Since below the one ahead", bench(9, waiting(8, first), waiting(7, second))},
		{"Since below the one ahead, Bad", bench(9, spoilt(8, first), spoilt(7, second))},
		{"Since below the one ahead, the last two", bench(9, waiting(7, first), waiting(9, second), waiting(8, ofId(2, first)))},
		{"Since below the first, not the second", bench(9, waiting(8, first), waiting(6, second), waiting(7, ofId(2, first)))},
		{"two of one packet", bench(9, waiting(8, first), waiting(8, first))},
		{"two of one packet, other pieces", bench(9, waiting(8, first), waiting(9, part(4, 8, false)))},
		{"two of one packet, Bad", bench(9, spoilt(8, first), waiting(9, part(4, 8, true)))},
		{"two of one packet, far from each other", bench(9, waiting(8, first), waiting(8, second), waiting(9, ofId(2, first)), waiting(9, withHops(9, first)))},
	}
	more := full(50)
	more.Slots = append(more.Slots, waiting(50, ofId(5, first)))
	out = append(out, benchCase{"one slot more", more}, benchCase{"very many slots", impl.FragBench{Now: 9, Slots: slices.Repeat(more.Slots, 50000)}})
	for i, slot := range wrongSlots() {
		for j, b := range amongOthers(slot) {
			out = append(out, benchCase{fmt.Sprintf("wrong slot %d, bench %d", i, j), b})
		}
	}
	return out
}

func TestBenchOk(t *testing.T) {
	for _, c := range okBenches() {
		if !impl.FragBenchOk(c.bench) {
			t.Errorf("%s: not ok", c.name)
		}
	}
	for _, c := range wrongBenches() {
		if impl.FragBenchOk(c.bench) {
			t.Errorf("%s: ok", c.name)
		}
	}
}

// A slot may be as old as FragLife lets it, whatever Now is.
func TestBenchOkAtAllSinces(t *testing.T) {
	for _, now := range []int{0, 1, 4, 5, 6, 7, 100, 999999, 1000000} {
		for since := now - 9; since <= now+3; since++ {
			want := since >= 0 && since > now-6 && since <= now
			for _, bad := range []bool{false, true} {
				b := bench(now, impl.FragSlot{Pieces: []impl.FragPacket{part(0, 4, true)}, Since: since, Bad: bad})
				if impl.FragBenchOk(b) != want {
					t.Errorf("Now %d, Since %d, Bad %v: ok is not %v", now, since, bad, want)
				}
			}
		}
	}
}

// Each two Sinces of two slots: the same, or the later one behind.
func TestBenchOkAtEachTwoSinces(t *testing.T) {
	for first := 44; first <= 51; first++ {
		for second := 44; second <= 51; second++ {
			b := bench(50, waiting(first, part(0, 4, true)), waiting(second, ofId(1, part(0, 4, true))))
			want := first >= 45 && first <= second && second <= 50
			if impl.FragBenchOk(b) != want {
				t.Errorf("Since %d and %d: ok is not %v", first, second, want)
			}
		}
	}
}

// expectTake asks all that FragTake answers.
func expectTake(t *testing.T, name string, b impl.FragBench, p impl.FragPacket, left impl.FragBench, told impl.FragPacket, code int) {
	t.Helper()
	gotLeft, gotTold, gotCode := impl.FragTake(b, p)
	if gotCode != code || !same(gotTold, told) || !sameBench(gotLeft, left) {
		t.Fatalf("%s: code %d, not %d; told %+v, not %+v; left %+v, not %+v", name, gotCode, code, gotTold, told, gotLeft, left)
	}
}

type takeCase struct {
	name  string
	bench impl.FragBench
	came  impl.FragPacket
	left  impl.FragBench
	told  impl.FragPacket
	code  int
}

// staying is a case in which the bench stays, and nothing is told.
func staying(name string, b impl.FragBench, p impl.FragPacket, code int) takeCase {
	return takeCase{name: name, bench: b, came: p, left: b, code: code}
}

// taken is a case with one slot in the midst of others; none is left of it, if it has no pieces.
func taken(name string, slot impl.FragSlot, p impl.FragPacket, left impl.FragSlot, told impl.FragPacket, code int) takeCase {
	ahead, behind := waiting(4, ofId(1, part(0, 4, true))), waiting(9, ofId(2, part(4, 8, true)))
	after := bench(9, ahead, left, behind)
	if len(left.Pieces) == 0 {
		after = bench(9, ahead, behind)
	}
	return takeCase{name, bench(9, ahead, slot, behind), p, after, told, code}
}

// whatStays are cases in which the bench stays.
func whatStays() []takeCase {
	var out []takeCase
	for _, c := range wrongPackets() {
		out = append(out, staying(c.name, full(50), c.packet, 2), staying(c.name+", empty bench", bench(1000000), c.packet, 2))
	}
	some := waiting(8, part(0, 4, true), part(8, 12, true), part(20, 22, false))
	for i, p := range some.Pieces {
		out = append(out, taken(fmt.Sprintf("waits already, %d", i), some, p, some, impl.FragPacket{}, 3))
	}
	twice := waiting(8, part(0, 4, true), part(0, 4, true))
	bad := spoilt(8, part(4, 8, true))
	crowded := waiting(8, crowd(40, part(4, 8, true))...)
	return append(out,
		taken("waits twice already", twice, part(0, 4, true), twice, impl.FragPacket{}, 3),
		taken("waits already, no bytes", waiting(8, part(4, 4, false)), altered(part(4, 4, false), func(p *impl.FragPacket) { p.Data = nil }), waiting(8, part(4, 4, false)), impl.FragPacket{}, 3),
		taken("waits already, among as many as may be, first", crowded, crowded.Pieces[0], crowded, impl.FragPacket{}, 3),
		taken("waits already, among as many as may be, last", crowded, crowded.Pieces[39], crowded, impl.FragPacket{}, 3),
		taken("Bad", bad, part(0, 4, true), bad, impl.FragPacket{}, 4),
		taken("Bad, its own piece", bad, part(4, 8, true), bad, impl.FragPacket{}, 4),
		taken("Bad, what disagrees", bad, lied(part(4, 8, true), 1), bad, impl.FragPacket{}, 4),
		taken("Bad, what would join", spoilt(8, part(4, 8, false)), part(0, 4, true), spoilt(8, part(4, 8, false)), impl.FragPacket{}, 4))
}

// whatIsTold are cases in which a packet is told.
func whatIsTold() []takeCase {
	var out []takeCase
	for _, c := range okPackets() {
		if c.packet.Off == 0 && !c.packet.More {
			out = append(out, takeCase{c.name, full(50), c.packet, full(50), c.packet, 0}, takeCase{c.name + ", empty bench", bench(0), c.packet, bench(0), c.packet, 0})
		}
	}
	for _, c := range whatIsMissing() {
		out = append(out, taken(c.name+", whole", waiting(8, c.list...), plain(9), waiting(8, c.list...), plain(9), 0))
	}
	out = append(out, taken("Bad, whole", spoilt(8, part(0, 4, true)), plain(9), spoilt(8, part(0, 4, true)), plain(9), 0))
	for _, c := range whatJoins() {
		last := len(c.list) - 1
		if _, code := joinByWords(c.list[:last]); last > 0 && code == 3 && (c.list[last].Off > 0 || c.list[last].More) {
			out = append(out, taken(c.name, waiting(8, c.list[:last]...), c.list[last], waiting(8), c.want, 0))
		}
	}
	return append(out,
		taken("as many as may be, with the last one", waiting(8, crowd(39, part(4, 8, false))...), part(0, 4, true), waiting(8), withHops(1, plain(8)), 0),
		taken("Hops of what came", waiting(8, part(0, 4, true)), withHops(2, part(4, 7, false)), waiting(8), withHops(2, plain(7)), 0))
}

// whatWaits are cases in which a piece comes to wait.
func whatWaits() []takeCase {
	first, last := part(0, 4, true), part(8, 10, false)
	others := full(50).Slots
	out := []takeCase{
		{"to nothing", impl.FragBench{}, first, bench(0, waiting(0, first)), impl.FragPacket{}, 3},
		{"to the last tick", bench(1000000), last, bench(1000000, waiting(1000000, last)), impl.FragPacket{}, 3},
		{"beside one", bench(50, others[:1]...), first, bench(50, append(slices.Clone(others[:1]), waiting(50, first))...), impl.FragPacket{}, 3},
		{"beside three", bench(50, others[:3]...), first, bench(50, append(slices.Clone(others[:3]), waiting(50, first))...), impl.FragPacket{}, 3},
		{"beside four", full(50), first, bench(50, append(slices.Clone(others[1:]), waiting(50, first))...), impl.FragPacket{}, 3},
		{"beside four, to the last tick", full(1000000), last, bench(1000000, append(full(1000000).Slots[1:], waiting(1000000, last))...), impl.FragPacket{}, 3},
		{"beside a Bad one of another packet", bench(3, spoilt(1, ofId(1, first))), first, bench(3, spoilt(1, ofId(1, first)), waiting(3, first)), impl.FragPacket{}, 3},
		taken("a second one", waiting(8, first), last, waiting(8, first, last), impl.FragPacket{}, 3),
		taken("a third one", waiting(8, last, part(4, 8, true)), withHops(7, last), waiting(8, last, part(4, 8, true), withHops(7, last)), impl.FragPacket{}, 3),
		taken("one that differs in Hops alone", waiting(8, first), withHops(6, first), waiting(8, first, withHops(6, first)), impl.FragPacket{}, 3),
		taken("one that differs in More alone", waiting(8, part(4, 8, true)), part(4, 8, false), waiting(8, part(4, 8, true), part(4, 8, false)), impl.FragPacket{}, 3),
		taken("one that differs in its number of bytes", waiting(8, part(4, 8, true)), part(4, 12, true), waiting(8, part(4, 8, true), part(4, 12, true)), impl.FragPacket{}, 3),
		taken("one with the same bytes elsewhere", waiting(8, part(4, 8, true)), altered(part(4, 8, true), func(p *impl.FragPacket) { p.Off = 8 }), waiting(8, part(4, 8, true), altered(part(4, 8, true), func(p *impl.FragPacket) { p.Off = 8 })), impl.FragPacket{}, 3),
		taken("the last that may come", waiting(8, crowd(39, first)...), withHops(40, first), waiting(8, crowd(40, first)...), impl.FragPacket{}, 3),
	}
	for i, p := range foreign() {
		b := bench(9, waiting(8, part(4, 8, true)))
		out = append(out, takeCase{fmt.Sprintf("foreign %d", i), b, p, bench(9, b.Slots[0], waiting(9, p)), impl.FragPacket{}, 3})
	}
	return out
}

// whatSpoils are cases in which a slot becomes Bad.
func whatSpoils() []takeCase {
	var out []takeCase
	for _, c := range whatDisagrees() {
		p, q := c.list[0], c.list[1]
		if p.Off == 0 && !p.More || q.Off == 0 && !q.More {
			continue
		}
		far := part(64, 68, true)
		if _, code := joinByWords([]impl.FragPacket{far, p}); code == 3 {
			out = append(out, taken(c.name+", a third one ahead", waiting(8, far, p), q, spoilt(8, far), impl.FragPacket{}, 4))
		}
		out = append(out,
			taken(c.name, waiting(8, p), q, spoilt(8, p), impl.FragPacket{}, 4),
			taken(c.name+", the other way round", waiting(8, q), p, spoilt(8, q), impl.FragPacket{}, 4))
	}
	first := part(0, 4, true)
	return append(out,
		taken("too many", waiting(8, crowd(40, first)...), withHops(41, first), spoilt(8, withHops(1, first)), impl.FragPacket{}, 4),
		taken("too many, of other places", waiting(8, crowd(40, first)...), part(4, 8, true), spoilt(8, withHops(1, first)), impl.FragPacket{}, 4),
		taken("too many, would join", waiting(8, crowd(40, first)...), part(4, 8, false), spoilt(8, withHops(1, first)), impl.FragPacket{}, 4),
		taken("too many, and disagrees", waiting(8, crowd(40, first)...), lied(first, 0), spoilt(8, withHops(1, first)), impl.FragPacket{}, 4),
		taken("disagrees as the last that may come", waiting(8, crowd(39, first)...), lied(first, 0), spoilt(8, withHops(1, first)), impl.FragPacket{}, 4),
		taken("disagrees in a byte, is the same else", waiting(8, first), lied(first, 3), spoilt(8, first), impl.FragPacket{}, 4))
}

func takeCases() []takeCase {
	return slices.Concat(whatStays(), whatIsTold(), whatWaits(), whatSpoils())
}

// What a bench keeps behind each code, and what it tells; promise 6 in each of them.
func TestTake(t *testing.T) {
	for _, c := range takeCases() {
		if !impl.FragBenchOk(c.bench) || !impl.FragBenchOk(c.left) {
			t.Fatalf("%s: a bench of the test is not ok", c.name)
		}
		expectTake(t, c.name, c.bench, c.came, c.left, c.told, c.code)
	}
}

// Code 1 comes ahead of all others, and nothing is left.
func TestTakeByAWrongBench(t *testing.T) {
	came := append(wrongPackets(), named{"whole", plain(9)}, named{"waits", part(0, 4, true)}, named{"of another packet", ofId(99, part(4, 8, false))})
	for _, c := range wrongBenches() {
		for _, p := range came {
			expectTake(t, c.name+", "+p.name, c.bench, p.packet, impl.FragBench{}, impl.FragPacket{}, 1)
		}
	}
}

// The document's example.
func TestTakeExample(t *testing.T) {
	p := plain(10)
	p.Data = []byte{0, 1, 2, 3, 4, 5, 6, 7, 8, 9}
	list := mustCut(t, p, 12)
	first, second, third := list[0], list[1], list[2]
	expectTake(t, "the third", impl.FragBench{}, third, bench(0, waiting(0, third)), impl.FragPacket{}, 3)
	expectTake(t, "the first", bench(0, waiting(0, third)), first, bench(0, waiting(0, third, first)), impl.FragPacket{}, 3)
	expectTake(t, "the first again", bench(0, waiting(0, third, first)), first, bench(0, waiting(0, third, first)), impl.FragPacket{}, 3)
	expectTake(t, "the second", bench(0, waiting(0, third, first)), second, bench(0), p, 0)
}

// expectTick asks all that FragTick answers.
func expectTick(t *testing.T, name string, b impl.FragBench, left impl.FragBench, code int) {
	t.Helper()
	if got, c := impl.FragTick(b); c != code || !sameBench(got, left) {
		t.Fatalf("%s: code %d, not %d; left %+v, not %+v", name, c, code, got, left)
	}
}

func TestTick(t *testing.T) {
	slots := full(50).Slots
	expectTick(t, "nothing", impl.FragBench{}, bench(1), 0)
	expectTick(t, "up to the last", bench(999999), bench(1000000), 0)
	expectTick(t, "the eldest goes", full(50), bench(51, slots[1:]...), 0)
	expectTick(t, "none goes", bench(50, slots[1:]...), bench(51, slots[1:]...), 0)
	expectTick(t, "none goes again", bench(51, slots[1:]...), bench(52, slots[1:]...), 0)
	expectTick(t, "two go at once, one of them Bad", bench(52, slots[1:]...), bench(53, slots[3]), 0)
	expectTick(t, "the last one goes", bench(55, slots[3]), bench(56), 0)
	expectTick(t, "the first tick at which one goes", bench(5, waiting(0, part(0, 4, true)), waiting(1, ofId(1, part(0, 4, true)))), bench(6, waiting(1, ofId(1, part(0, 4, true)))), 0)
	expectTick(t, "the first tick at which none goes", bench(4, waiting(0, part(0, 4, true))), bench(5, waiting(0, part(0, 4, true))), 0)
	expectTick(t, "one goes as the last tick comes", bench(999999, waiting(999994, part(0, 4, true)), waiting(999995, ofId(1, part(0, 4, true)))), bench(1000000, waiting(999995, ofId(1, part(0, 4, true)))), 0)
}

func TestTickRefused(t *testing.T) {
	for _, c := range wrongBenches() {
		expectTick(t, c.name, c.bench, impl.FragBench{}, 1)
	}
	for _, c := range okBenches() {
		if c.bench.Now == 1000000 {
			expectTick(t, c.name, c.bench, c.bench, 2)
		}
	}
	expectTick(t, "the last tick, a wrong slot, 1 ahead of 2", bench(1000000, waiting(999994, part(0, 4, true))), impl.FragBench{}, 1)
	expectTick(t, "the last tick, a whole packet, 1 ahead of 2", bench(1000000, waiting(1000000, plain(4))), impl.FragBench{}, 1)
}
