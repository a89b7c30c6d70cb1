package tests

import (
	"fmt"
	"slices"
	"testing"

	"loop.example/ternfrag/impl"
)

// Promise 1: what a packet is cut into joins to it, whatever it is cut with.
func TestCutJoinsAgain(t *testing.T) {
	for n := 0; n <= 128; n++ {
		p := plain(n)
		for most := 12; most <= 12+n; most++ {
			list := mustCut(t, p, most)
			expectJoin(t, fmt.Sprintf("%d bytes cut with %d", n, most), list, p, 0)
			slices.Reverse(list)
			expectJoin(t, fmt.Sprintf("%d bytes cut with %d, backwards", n, most), list, p, 0)
		}
	}
	for n := 0; n <= 128; n += 9 {
		for most := 12; most <= 12+n; most += 3 {
			expectJoinAnyhow(t, fmt.Sprintf("%d bytes cut with %d", n, most), mustCut(t, plain(n), most), plain(n), 0)
		}
	}
}

func TestCutJoinsAgainAtTheLimits(t *testing.T) {
	for _, c := range okPackets() {
		if c.packet.Off != 0 || c.packet.More {
			continue
		}
		for most := 12; most <= 137; most++ {
			if list, code := impl.FragCut(c.packet, most); code == 0 {
				expectJoinAnyhow(t, c.name, list, c.packet, 0)
			}
		}
	}
}

// cutAgain cuts some of the pieces again, each with a number of its own.
func cutAgain(t *testing.T, n *naturals, list []impl.FragPacket) []impl.FragPacket {
	var out []impl.FragPacket
	for _, p := range list {
		if n.below(3) == 0 {
			out = append(out, p)
			continue
		}
		out = append(out, mustCut(t, p, 12+n.below(60))...)
	}
	return out
}

// Promise 1: in whatever ways it was cut, if need be again and again, in any order, with some twice.
func TestCutAgainJoinsAgain(t *testing.T) {
	n := &naturals{state: 7}
	for round := range 3000 {
		p := plain(n.below(129))
		list := mustCut(t, p, 12+n.below(130))
		for range n.below(4) {
			list = cutAgain(t, n, list)
		}
		for range n.below(41 - min(len(list), 40)) {
			list = append(list, list[n.below(len(list))])
		}
		expectJoin(t, fmt.Sprintf("round %d", round), n.shuffled(list), p, 0)
	}
}

// Promise 1: pieces of cuts of one packet that were made in different ways lie over each other, and join.
func TestDifferentCutsJoinTogether(t *testing.T) {
	for n := 0; n <= 128; n += 3 {
		p := plain(n)
		for _, ways := range [][]int{{40, 60}, {28, 41, 136}, {30, 33}, {50, 51, 52, 53}} {
			var list []impl.FragPacket
			for _, most := range ways {
				list = append(list, mustCut(t, p, most)...)
			}
			if len(list) > 40 {
				t.Fatalf("%d bytes, cut with %v: %d pieces", n, ways, len(list))
			}
			expectJoinAnyhow(t, fmt.Sprintf("%d bytes cut with %v", n, ways), list, p, 0)
		}
	}
}

// Pieces that went on for different numbers of hops join to the least of them.
func TestCutHopsJoinAgain(t *testing.T) {
	p := plain(30)
	p.Hops = 20
	list := mustCut(t, p, 16)
	for i := range list {
		for range 3*i + 1 {
			next, code := impl.FragHop(list[i])
			if code != 0 {
				t.Fatalf("hop: code %d", code)
			}
			list[i] = next
		}
	}
	p.Hops = 20 - (3*len(list) - 2)
	expectJoinAnyhow(t, "hops", list, p, 0)
}

// Promise 5: without any one of its pieces a packet that was cut does not join.
func TestCutDoesNotJoinWithoutOne(t *testing.T) {
	for n := 5; n <= 128; n++ {
		for most := 12; most < 8+n; most++ {
			list := mustCut(t, plain(n), most)
			for i := range list {
				rest := slices.Concat(list[:i], list[i+1:])
				name := fmt.Sprintf("%d bytes cut with %d, without piece %d", n, most, i)
				expectJoin(t, name, rest, impl.FragPacket{}, 3)
				slices.Reverse(rest)
				expectJoin(t, name+", backwards", rest, impl.FragPacket{}, 3)
				expectJoin(t, name+", one twice", append(rest, rest[0]), impl.FragPacket{}, 3)
			}
		}
	}
}

// Promise 5: with one of its pieces once more, and any byte changed, the two disagree.
func TestCutAndALieDisagree(t *testing.T) {
	for n := 1; n <= 128; n += 7 {
		for most := 12; most <= 8+n; most += 5 {
			list := mustCut(t, plain(n), most)
			for i, p := range list {
				for at := range p.Data {
					lie := lied(p, at)
					name := fmt.Sprintf("%d bytes cut with %d, piece %d, a lie at %d", n, most, i, at)
					expectJoinAnyhow(t, name+", the two", []impl.FragPacket{p, lie}, impl.FragPacket{}, 2)
					expectJoin(t, name, append(slices.Clone(list), lie), impl.FragPacket{}, 2)
					expectJoin(t, name+", ahead", slices.Concat([]impl.FragPacket{lie}, list), impl.FragPacket{}, 2)
				}
			}
		}
	}
}

// A lie instead of a piece can't be seen by itself; but what is joined then is what came, and no other byte.
func TestLieAlone(t *testing.T) {
	list := mustCut(t, plain(22), 16)
	list[1] = lied(list[1], 3)
	expectJoinAnyhow(t, "a lie alone", list, lied(plain(22), 11), 0)
}

// disagreeing says by the document's words, place by place, whether two pieces disagree.
func disagreeing(p impl.FragPacket, q impl.FragPacket) bool {
	for place := range 129 {
		pHas := place >= p.Off && place < p.Off+len(p.Data)
		qHas := place >= q.Off && place < q.Off+len(q.Data)
		if pHas && qHas && p.Data[place-p.Off] != q.Data[place-q.Off] {
			return true
		}
	}
	pEnd, qEnd := p.Off+len(p.Data), q.Off+len(q.Data)
	switch {
	case !p.More && qEnd > pEnd, !q.More && pEnd > qEnd:
		return true
	case !p.More && !q.More:
		return pEnd != qEnd
	}
	return false
}

// joinByWords joins pieces that are alike and not too many by the document's words.
func joinByWords(list []impl.FragPacket) (impl.FragPacket, int) {
	for i, p := range list {
		for _, q := range list[i+1:] {
			if disagreeing(p, q) {
				return impl.FragPacket{}, 2
			}
		}
	}
	last := slices.IndexFunc(list, func(p impl.FragPacket) bool { return !p.More })
	if last < 0 {
		return impl.FragPacket{}, 3
	}
	out := list[last]
	out.Off, out.Data = 0, nil
	for place := range list[last].Off + len(list[last].Data) {
		i := slices.IndexFunc(list, func(p impl.FragPacket) bool { return place >= p.Off && place < p.Off+len(p.Data) })
		if i < 0 {
			return impl.FragPacket{}, 3
		}
		out.Data = append(out.Data, list[i].Data[place-list[i].Off])
	}
	for _, p := range list {
		out.Hops = min(out.Hops, p.Hops)
		out.Whole = out.Whole || p.Whole
	}
	return out, 0
}

// anyPiece is an ok piece of a short packet, of which the bytes are mostly the same as those of others.
func anyPiece(n *naturals, room int) impl.FragPacket {
	off := 4 * n.below(room/4+1)
	p := part(off, off+n.below(room-off+1), false)
	if n.below(3) > 0 && len(p.Data) >= 4 {
		p = part(off, off+len(p.Data)/4*4, true)
	} else if n.below(3) > 0 {
		p = part(off, max(off, room-2), false)
	}
	p.Hops = 1 + n.below(64)
	p.Whole = off == 0 && !p.More && n.below(2) == 0
	if len(p.Data) > 0 && n.below(16) == 0 {
		p = lied(p, n.below(len(p.Data)))
	}
	return p
}

// Lists of any pieces, held against the document's words; promise 3 in each of them.
func TestJoinByWords(t *testing.T) {
	n := &naturals{state: 3}
	seen := map[int]int{}
	for round := range 20000 {
		room := 4 * (1 + n.below(4))
		var list []impl.FragPacket
		for range 1 + n.below(6) {
			list = append(list, anyPiece(n, room))
		}
		want, code := joinByWords(list)
		seen[code]++
		name := fmt.Sprintf("round %d", round)
		expectJoin(t, name, list, want, code)
		expectJoin(t, name+", in another order", n.shuffled(list), want, code)
		expectJoin(t, name+", one twice", n.shuffled(append(list, list[n.below(len(list))])), want, code)
	}
	for _, code := range []int{0, 2, 3} {
		if seen[code] < 1000 {
			t.Errorf("code %d was asked %d times alone", code, seen[code])
		}
	}
}

// Each two pieces of a short packet, held against the document's words.
func TestEachTwoByWords(t *testing.T) {
	var all []impl.FragPacket
	for off := 0; off <= 12; off += 4 {
		for end := off; end <= 12; end++ {
			p := part(off, end, false)
			all = append(all, p)
			if end > off {
				all = append(all, lied(p, end-off-1), lied(p, 0))
				if (end-off)%4 == 0 {
					all = append(all, part(off, end, true), lied(part(off, end, true), 0))
				}
			}
		}
	}
	for i, p := range all {
		for j, q := range all {
			want, code := joinByWords([]impl.FragPacket{p, q})
			expectJoin(t, fmt.Sprintf("%d and %d", i, j), []impl.FragPacket{p, q}, want, code)
		}
	}
}

// joinLists are lists of all kinds, what is refused among them.
func joinLists() []joinCase {
	out := slices.Concat(whatJoins(), whatIsMissing(), whatDisagrees())
	for _, c := range wrongPackets() {
		out = append(out, joinCase{name: c.name, list: []impl.FragPacket{plain(8), c.packet}})
	}
	return append(out, joinCase{name: "too many", list: repeated([]impl.FragPacket{plain(9)}, 41)})
}

// roomyList gives each piece bytes in the midst of a greater list, and the list itself spare room behind it.
func roomyList(list []impl.FragPacket) ([]impl.FragPacket, [][]byte) {
	out := make([]impl.FragPacket, 0, len(list)+3)
	var arounds [][]byte
	for _, p := range list {
		r, around := roomy(p)
		out = append(out, r)
		arounds = append(arounds, around)
	}
	return out, arounds
}

func texts(lists [][]byte) []string {
	var out []string
	for _, list := range lists {
		out = append(out, string(list))
	}
	return out
}

func TestJoinWritesNothing(t *testing.T) {
	for _, c := range joinLists() {
		list, arounds := roomyList(c.list)
		room := list[:cap(list)]
		room[len(list)] = plain(1)
		want, before := deepCopies(room), texts(arounds)
		impl.FragJoin(list)
		impl.FragAlike(list[0], list[len(list)-1])
		if !sameList(room, want) || !slices.Equal(texts(arounds), before) {
			t.Errorf("%s: something was written", c.name)
		}
	}
}

func TestJoinIsNewMemory(t *testing.T) {
	for _, c := range whatJoins() {
		list, arounds := roomyList(c.list)
		before := texts(arounds)
		q, code := impl.FragJoin(list)
		other, _ := impl.FragJoin(list)
		if code != 0 {
			t.Fatalf("%s: code %d", c.name, code)
		}
		scribble(q.Data)
		if !slices.Equal(texts(arounds), before) || !same(other, c.want) {
			t.Errorf("%s: the answer shares bytes with a piece or another answer", c.name)
		}
		for _, around := range arounds {
			scribble(around)
		}
		clear(list[:cap(list)])
		if !same(other, c.want) {
			t.Errorf("%s: a piece shares bytes with the answer", c.name)
		}
	}
}
