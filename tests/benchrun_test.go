package tests

import (
	"fmt"
	"slices"
	"testing"

	"loop.example/ternfrag/impl"
)

// keyOf is what pieces of one packet have in common.
func keyOf(p impl.FragPacket) [4]int {
	return [4]int{p.Src, p.Dst, p.Kind, p.Id}
}

// takeByWords is FragTake at an ok bench and an ok packet, by the document's words.
func takeByWords(b impl.FragBench, p impl.FragPacket) (impl.FragBench, impl.FragPacket, int) {
	b = copyBench(b)
	if p.Off == 0 && !p.More {
		return b, p, 0
	}
	at := slices.IndexFunc(b.Slots, func(s impl.FragSlot) bool { return keyOf(s.Pieces[0]) == keyOf(p) })
	if at < 0 {
		if len(b.Slots) == 4 {
			b.Slots = b.Slots[1:]
		}
		b.Slots = append(b.Slots, waiting(b.Now, p))
		return b, impl.FragPacket{}, 3
	}
	slot := &b.Slots[at]
	if slot.Bad {
		return b, impl.FragPacket{}, 4
	}
	if slices.ContainsFunc(slot.Pieces, func(q impl.FragPacket) bool { return same(p, q) }) {
		return b, impl.FragPacket{}, 3
	}
	whole, code := joinByWords(append(slices.Clone(slot.Pieces), p))
	if len(slot.Pieces) == 40 || code == 2 {
		*slot = spoilt(slot.Since, slot.Pieces[0])
		return b, impl.FragPacket{}, 4
	}
	if code == 0 {
		b.Slots = slices.Delete(b.Slots, at, at+1)
		return b, whole, 0
	}
	slot.Pieces = append(slot.Pieces, p)
	return b, impl.FragPacket{}, 3
}

// tickByWords is FragTick at an ok bench ahead of the last tick, by the document's words.
func tickByWords(b impl.FragBench) impl.FragBench {
	b = copyBench(b)
	b.Now++
	b.Slots = slices.DeleteFunc(b.Slots, func(s impl.FragSlot) bool { return s.Since <= b.Now-6 })
	return b
}

// anyArrival is a piece of one of few packets, mostly one that fits to others, with one of few Hops.
func anyArrival(n *naturals, packets int) impl.FragPacket {
	p := anyPiece(n, 4*(1+n.below(4)))
	p.Hops = 1 + n.below(2)
	return ofId(n.below(packets), p)
}

// expectPromise6 holds what a bench was against what it is behind a piece that came.
func expectPromise6(t *testing.T, name string, b impl.FragBench, p impl.FragPacket) impl.FragBench {
	t.Helper()
	left, told, code := impl.FragTake(b, p)
	if !impl.FragBenchOk(left) {
		t.Fatalf("%s: %+v is not ok", name, left)
	}
	var came []impl.FragPacket
	var before, after []impl.FragSlot
	for _, s := range b.Slots {
		if keyOf(s.Pieces[0]) == keyOf(p) {
			came = append(came, s.Pieces...)
		} else {
			before = append(before, s)
		}
	}
	for _, s := range left.Slots {
		if keyOf(s.Pieces[0]) != keyOf(p) {
			after = append(after, s)
		}
	}
	if len(b.Slots) == 4 && len(came) == 0 && (p.Off > 0 || p.More) {
		before = before[1:]
	}
	if !slices.EqualFunc(before, after, sameSlot) {
		t.Fatalf("%s: another slot changed: %+v, not %+v", name, after, before)
	}
	if code != 0 && !isNothing(told) || code == 0 && !same(told, p) && !isJoin(append(came, p), told) {
		t.Fatalf("%s: code %d, told %+v of %+v", name, code, told, append(came, p))
	}
	return left
}

func isJoin(list []impl.FragPacket, told impl.FragPacket) bool {
	whole, code := joinByWords(list)
	return code == 0 && same(whole, told)
}

// Promise 6, in runs of pieces and ticks that are held against the document's words, too.
func TestBenchByWords(t *testing.T) {
	n := &naturals{state: 11}
	seen := map[int]int{}
	for run := range 300 {
		b := bench(n.below(3) * 499960)
		packets := 1 + n.below(7)
		for step := range 100 {
			name := fmt.Sprintf("run %d, step %d", run, step)
			if n.below(12) == 0 && b.Now < 1000000 {
				want := tickByWords(b)
				expectTick(t, name, b, want, 0)
				b = want
				continue
			}
			p := anyArrival(n, packets)
			want, told, code := takeByWords(b, p)
			expectTake(t, name, b, p, want, told, code)
			if left := expectPromise6(t, name, b, p); !sameBench(left, want) {
				t.Fatalf("%s: asked again it answers otherwise", name)
			}
			seen[code]++
			b = want
		}
	}
	for _, code := range []int{0, 3, 4} {
		if seen[code] < 1000 {
			t.Errorf("code %d was asked %d times alone", code, seen[code])
		}
	}
}

// Promise 6, with slots that have as many pieces as they may, and more that come.
func TestBenchWithCrowdedSlots(t *testing.T) {
	n := &naturals{state: 12}
	for run := range 6 {
		b := bench(run)
		for step := range 400 {
			p := ofId(n.below(4), withHops(1+n.below(64), part(4, 8, n.below(40) > 0)))
			want, told, code := takeByWords(b, p)
			expectTake(t, fmt.Sprintf("run %d, step %d", run, step), b, p, want, told, code)
			b = expectPromise6(t, fmt.Sprintf("run %d, step %d", run, step), b, p)
		}
		for _, s := range b.Slots {
			if !s.Bad {
				t.Fatalf("run %d: a slot with %d pieces is not Bad", run, len(s.Pieces))
			}
		}
	}
}

// fourPackets are packets of which no two are alike, by one field each.
func fourPackets(n *naturals) []impl.FragPacket {
	out := []impl.FragPacket{plain(n.below(129)), plain(n.below(129)), plain(n.below(129)), plain(n.below(129))}
	out[1].Src++
	out[2].Dst++
	out[3].Kind++
	for i := range out {
		out[i].Hops = 1 + n.below(64)
		for j := range out[i].Data {
			out[i].Data[j] = byte(n.below(256))
		}
	}
	return out
}

// arrivals are the pieces of all these packets, each cut once, some of them twice, in any order.
func arrivals(t *testing.T, n *naturals, packets []impl.FragPacket, twice int) []impl.FragPacket {
	var out []impl.FragPacket
	for _, p := range packets {
		out = append(out, mustCut(t, p, 12+n.below(n.below(120)+1))...)
	}
	for range twice {
		out = append(out, out[n.below(len(out))])
	}
	return n.shuffled(out)
}

// have counts the bytes of different pieces; those of one cut lie beside each other.
func have(pieces []impl.FragPacket, p impl.FragPacket) ([]impl.FragPacket, int) {
	if !slices.ContainsFunc(pieces, func(q impl.FragPacket) bool { return same(p, q) }) {
		pieces = append(pieces, p)
	}
	count := 0
	for _, q := range pieces {
		count += len(q.Data)
	}
	return pieces, count
}

// Promise 7: each packet is told when the last of its pieces has come, and not ahead.
func TestInWhateverOrder(t *testing.T) {
	n := &naturals{state: 13}
	for run := range 400 {
		packets := fourPackets(n)[:1+n.below(4)]
		b := bench(n.below(1000001))
		came := map[[4]int][]impl.FragPacket{}
		for step, p := range arrivals(t, n, packets, n.below(20)) {
			at := slices.IndexFunc(packets, func(q impl.FragPacket) bool { return keyOf(q) == keyOf(p) })
			pieces, count := have(came[keyOf(p)], p)
			left, told, code := impl.FragTake(b, p)
			switch {
			case count == len(packets[at].Data):
				if code != 0 || !same(told, packets[at]) {
					t.Fatalf("run %d, step %d: the last one came: code %d, %+v", run, step, code, told)
				}
				pieces = nil
			case code != 3 || !isNothing(told):
				t.Fatalf("run %d, step %d: some are missing: code %d, %+v", run, step, code, told)
			}
			came[keyOf(p)] = pieces
			b = left
		}
		if len(b.Slots) > len(packets) || !impl.FragBenchOk(b) {
			t.Fatalf("run %d: left %+v", run, b)
		}
	}
}

// Promise 7: all orders of four pieces, with one of each of three others behind each of them, and with one twice.
func TestInAllOrders(t *testing.T) {
	p := plain(15)
	others := [][]impl.FragPacket{
		mustCut(t, ofId(1, plain(20)), 12),
		mustCut(t, ofId(2, plain(128)), 12),
		mustCut(t, ofId(3, plain(50)), 20),
	}
	for round, order := range permutations(mustCut(t, p, 12)) {
		for twice := range len(order) {
			b := bench(3)
			for i, q := range order {
				left, told, code := impl.FragTake(b, q)
				last := i == len(order)-1
				if last != (code == 0) || last && !same(told, p) || !last && (code != 3 || !isNothing(told)) {
					t.Fatalf("order %d, piece %d: code %d, told %+v", round, i, code, told)
				}
				b = left
				for _, list := range others {
					b, _, code = impl.FragTake(b, list[i])
					if code != 3 {
						t.Fatalf("order %d, another packet behind piece %d: code %d", round, i, code)
					}
				}
				if twice <= i && !last {
					expectTake(t, "one twice", b, order[twice], b, impl.FragPacket{}, 3)
				}
			}
			if len(b.Slots) != 3 {
				t.Fatalf("order %d: %d slots are left", round, len(b.Slots))
			}
		}
	}
}

// A piece that went two ways comes with other Hops: it is another one, and the packet has the least of them.
func TestTwoWaysJoin(t *testing.T) {
	list := mustCut(t, plain(22), 16)
	b := impl.FragBench{}
	for i, p := range list[:2] {
		for _, hops := range []int{5, 3, 4} {
			left, told, code := impl.FragTake(b, withHops(hops, p))
			if code != 3 || !isNothing(told) {
				t.Fatalf("piece %d, Hops %d: code %d", i, hops, code)
			}
			b = left
		}
	}
	expectTake(t, "the last", b, list[2], bench(0), withHops(3, plain(22)), 0)
}

// With a fifth packet the eldest goes: what is left of it joins no more.
func TestTheEldestGoes(t *testing.T) {
	b := impl.FragBench{}
	for id := range 5 {
		b, _, _ = impl.FragTake(b, ofId(id, part(0, 4, true)))
	}
	left, told, code := impl.FragTake(b, ofId(0, part(4, 8, false)))
	if code != 3 || !isNothing(told) || len(left.Slots) != 4 || keyOf(left.Slots[0].Pieces[0]) != keyOf(ofId(2, plain(4))) {
		t.Fatalf("code %d, %+v", code, left)
	}
	for id := 1; id < 5; id++ {
		left, told, code = impl.FragTake(b, ofId(id, part(4, 8, false)))
		if code != 0 || !same(told, ofId(id, plain(8))) || len(left.Slots) != 3 {
			t.Fatalf("packet %d: code %d, %+v", id, code, left)
		}
	}
}

// A slot that lied is forgotten with its life, and the packet may come again.
func TestBadUntilItsLifeEnds(t *testing.T) {
	first, last := part(0, 4, true), part(4, 8, false)
	b, _, _ := impl.FragTake(bench(7), first)
	b, _, code := impl.FragTake(b, lied(first, 2))
	for range 5 {
		if code != 4 || !sameBench(b, bench(b.Now, spoilt(7, first))) {
			t.Fatalf("code %d, %+v", code, b)
		}
		b, _ = impl.FragTick(b)
		b, _, code = impl.FragTake(b, last)
	}
	b, _ = impl.FragTick(b)
	expectTake(t, "its life has ended", b, first, bench(13, waiting(13, first)), impl.FragPacket{}, 3)
	expectTake(t, "and the rest", bench(13, waiting(13, first)), last, bench(13), plain(8), 0)
}

// expectPromise8 lets ticks pass until there must be nothing, and not a slot goes ahead of its life.
func expectPromise8(t *testing.T, name string, b impl.FragBench) {
	t.Helper()
	start := b
	for gone := 1; gone <= 6; gone++ {
		left, code := impl.FragTick(b)
		var want []impl.FragSlot
		for _, s := range start.Slots {
			if start.Now+gone < s.Since+6 {
				want = append(want, s)
			}
		}
		if code != 0 || !sameBench(left, bench(start.Now+gone, want...)) || !impl.FragBenchOk(left) {
			t.Fatalf("%s, tick %d: code %d, %+v, not %+v", name, gone, code, left, want)
		}
		b = left
	}
	if len(b.Slots) != 0 {
		t.Fatalf("%s: %d slots are left", name, len(b.Slots))
	}
}

// Promise 8: behind FragLife ticks that are not refused a bench has nothing in it.
func TestLifeEnds(t *testing.T) {
	for _, c := range okBenches() {
		if c.bench.Now <= 999994 {
			expectPromise8(t, c.name, c.bench)
		}
	}
	for now := 5; now <= 20; now++ {
		expectPromise8(t, "full", full(now))
	}
	expectPromise8(t, "full, up to the last tick", full(999994))
	n := &naturals{state: 14}
	for run := range 100 {
		b := bench(n.below(999900))
		for range 30 {
			b, _, _ = impl.FragTake(b, anyArrival(n, 6))
			if n.below(6) == 0 {
				b, _ = impl.FragTick(b)
			}
		}
		expectPromise8(t, fmt.Sprintf("run %d", run), b)
	}
}

// Promise 8 says nothing of ticks that are refused: at the last one slots stay for ever.
func TestLifeDoesNotEndWithoutTicks(t *testing.T) {
	b := full(999998)
	for range 9 {
		b, _ = impl.FragTick(b)
	}
	want := full(999998)
	want.Now, want.Slots = 1000000, want.Slots[1:]
	if !sameBench(b, want) {
		t.Fatalf("%+v", b)
	}
}
