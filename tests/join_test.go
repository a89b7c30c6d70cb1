package tests

import (
	"fmt"
	"slices"
	"testing"

	"loop.example/ternfrag/impl"
)

// part is a piece of the plain packet, with numbered bytes from a place on: all parts agree in their bytes.
func part(from int, to int, more bool) impl.FragPacket {
	return piece(plain(128), from, to, more)
}

// altered is a part with something changed, in bytes of its own.
func altered(p impl.FragPacket, change func(p *impl.FragPacket)) impl.FragPacket {
	p = deepCopy(p)
	change(&p)
	return p
}

// lied is a piece with the byte at one of its places changed by one bit.
func lied(p impl.FragPacket, at int) impl.FragPacket {
	return altered(p, func(p *impl.FragPacket) { p.Data[at] ^= 1 })
}

// naturals tells always the same numbers, one behind the other, that look as if there were no rule in them.
type naturals struct{ state uint32 }

func (n *naturals) below(most int) int {
	n.state = n.state*1664525 + 1013904223
	return int(n.state>>8) % most
}

func (n *naturals) shuffled(list []impl.FragPacket) []impl.FragPacket {
	out := slices.Clone(list)
	for i := len(out) - 1; i > 0; i-- {
		j := n.below(i + 1)
		out[i], out[j] = out[j], out[i]
	}
	return out
}

// permutations are all orders of a list, of at most some five.
func permutations(list []impl.FragPacket) [][]impl.FragPacket {
	if len(list) < 2 {
		return [][]impl.FragPacket{list}
	}
	var out [][]impl.FragPacket
	for i := range list {
		rest := slices.Concat(list[:i], list[i+1:])
		for _, order := range permutations(rest) {
			out = append(out, append([]impl.FragPacket{list[i]}, order...))
		}
	}
	return out
}

// orders are all orders of a short list, and some of a longer one.
func orders(list []impl.FragPacket) [][]impl.FragPacket {
	if len(list) <= 4 {
		return permutations(list)
	}
	backwards := slices.Clone(list)
	slices.Reverse(backwards)
	out := [][]impl.FragPacket{list, backwards, slices.Concat(list[1:], list[:1]), slices.Concat(list[len(list)-1:], list[:len(list)-1])}
	n := naturals{state: uint32(len(list))}
	for range 4 {
		out = append(out, n.shuffled(list))
	}
	return out
}

// expectJoin asks for one list as it stands.
func expectJoin(t *testing.T, name string, list []impl.FragPacket, want impl.FragPacket, code int) {
	t.Helper()
	if q, c := impl.FragJoin(list); c != code || !same(q, want) {
		t.Fatalf("%s: code %d, not %d; %+v, not %+v; of %+v", name, c, code, q, want, list)
	}
}

// expectJoinAnyhow asks for a list in other orders, too, and with each one of its pieces twice.
func expectJoinAnyhow(t *testing.T, name string, list []impl.FragPacket, want impl.FragPacket, code int) {
	t.Helper()
	for _, order := range orders(list) {
		expectJoin(t, name, order, want, code)
	}
	if len(list) >= 40 {
		return
	}
	for i := range list {
		twice := append(slices.Clone(list), list[i])
		expectJoin(t, name+", one twice", twice, want, code)
		expectJoin(t, name+", one twice, ahead", slices.Concat(twice[len(list):], list), want, code)
	}
}

type joinCase struct {
	name string
	list []impl.FragPacket
	want impl.FragPacket
}

// units are n parts of a unit each, without the end.
func units(n int) []impl.FragPacket {
	var out []impl.FragPacket
	for i := range n {
		out = append(out, part(4*i, 4*i+4, true))
	}
	return out
}

// repeated is a list, its first one put behind it until there are n.
func repeated(list []impl.FragPacket, n int) []impl.FragPacket {
	out := slices.Clone(list)
	for len(out) < n {
		out = append(out, list[0])
	}
	return out
}

// whatJoins are lists that join, with what they join to.
func whatJoins() []joinCase {
	hops := func(p impl.FragPacket, n int) impl.FragPacket {
		p.Hops = n
		return p
	}
	whole := func(p impl.FragPacket) impl.FragPacket {
		p.Whole = true
		return p
	}
	all := append(units(31), part(124, 128, false))
	return []joinCase{
		{"one alone", []impl.FragPacket{plain(10)}, plain(10)},
		{"one alone, no bytes", []impl.FragPacket{plain(0)}, plain(0)},
		{"one alone, all bytes", []impl.FragPacket{plain(128)}, plain(128)},
		{"one alone, Whole", []impl.FragPacket{whole(plain(10))}, whole(plain(10))},
		{"one alone, Whole, no bytes", []impl.FragPacket{whole(plain(0))}, whole(plain(0))},
		{"two", []impl.FragPacket{part(0, 4, true), part(4, 8, false)}, plain(8)},
		{"two of other lengths", []impl.FragPacket{part(0, 8, true), part(8, 9, false)}, plain(9)},
		{"three", []impl.FragPacket{part(0, 4, true), part(4, 8, true), part(8, 10, false)}, plain(10)},
		{"over each other, wholly", []impl.FragPacket{part(0, 8, true), part(4, 8, true), part(8, 10, false)}, plain(10)},
		{"over each other, in part", []impl.FragPacket{part(0, 8, true), part(4, 12, true), part(8, 14, false)}, plain(14)},
		{"over each other, the last one is all", []impl.FragPacket{part(0, 4, true), part(0, 6, false)}, plain(6)},
		{"two tell of the end", []impl.FragPacket{part(0, 8, true), part(4, 10, false), part(8, 10, false)}, plain(10)},
		{"three tell of the end", []impl.FragPacket{plain(10), part(4, 10, false), part(8, 10, false)}, plain(10)},
		{"no bytes, at the end", []impl.FragPacket{part(0, 4, true), part(4, 8, true), part(8, 8, false)}, plain(8)},
		{"no bytes, at the end that another one tells of", []impl.FragPacket{plain(8), part(8, 8, false)}, plain(8)},
		{"no bytes, at the last place", []impl.FragPacket{part(0, 128, true), part(128, 128, false)}, plain(128)},
		{"More up to the end", []impl.FragPacket{plain(8), part(0, 8, true), part(4, 8, true)}, plain(8)},
		{"least Hops first", []impl.FragPacket{hops(part(0, 4, true), 2), hops(part(4, 8, true), 63), hops(part(8, 9, false), 3)}, hops(plain(9), 2)},
		{"least Hops in the middle", []impl.FragPacket{hops(part(0, 4, true), 64), hops(part(4, 8, true), 1), hops(part(8, 9, false), 2)}, hops(plain(9), 1)},
		{"least Hops last", []impl.FragPacket{part(0, 4, true), part(4, 8, true), hops(part(8, 9, false), 4)}, hops(plain(9), 4)},
		{"other Hops of the same piece", []impl.FragPacket{hops(plain(9), 7), hops(plain(9), 6)}, hops(plain(9), 6)},
		{"one of them Whole", []impl.FragPacket{part(0, 4, true), part(4, 10, false), whole(plain(10))}, whole(plain(10))},
		{"one of them Whole, no bytes", []impl.FragPacket{plain(0), whole(plain(0))}, whole(plain(0))},
		{"all bytes in units", all, plain(128)},
		{"just so many", repeated(all, 40), plain(128)},
		{"just so many of one", repeated([]impl.FragPacket{plain(3)}, 40), plain(3)},
	}
}

// Promises 1 and 3: what joins does so in any order, with any one twice.
func TestJoinOfWhatJoins(t *testing.T) {
	for _, c := range whatJoins() {
		expectJoinAnyhow(t, c.name, c.list, c.want, 0)
	}
}

// Bytes of 0 are bytes, too: they differ from places that none has.
func TestJoinOfZeroBytes(t *testing.T) {
	p := plain(12)
	p.Data = make([]byte, 12)
	list := mustCut(t, p, 12)
	expectJoinAnyhow(t, "zero bytes", list, p, 0)
	expectJoinAnyhow(t, "zero bytes, a gap", []impl.FragPacket{list[0], list[2]}, impl.FragPacket{}, 3)
}

// whatIsMissing are lists in which something is missing, and none disagree.
func whatIsMissing() []joinCase {
	return []joinCase{
		{name: "no end", list: []impl.FragPacket{part(0, 4, true)}},
		{name: "no end, two", list: []impl.FragPacket{part(0, 4, true), part(4, 8, true)}},
		{name: "no end, all bytes", list: []impl.FragPacket{part(0, 128, true)}},
		{name: "no end, all bytes in units", list: units(32)},
		{name: "no beginning", list: []impl.FragPacket{part(4, 8, false)}},
		{name: "no beginning, two", list: []impl.FragPacket{part(4, 8, true), part(8, 9, false)}},
		{name: "no middle", list: []impl.FragPacket{part(0, 4, true), part(8, 9, false)}},
		{name: "nothing ahead of an end without bytes", list: []impl.FragPacket{part(4, 4, false)}},
		{name: "nothing ahead of the last place", list: []impl.FragPacket{part(128, 128, false)}},
		{name: "a gap ahead of an end without bytes", list: []impl.FragPacket{part(0, 4, true), part(8, 8, false)}},
		{name: "a gap ahead of the last place", list: []impl.FragPacket{part(0, 124, true), part(128, 128, false)}},
		{name: "a gap between what lies over each other", list: []impl.FragPacket{part(0, 8, true), part(4, 12, true), part(16, 20, false)}},
		{name: "just so many, a gap", list: repeated([]impl.FragPacket{part(4, 8, true), part(8, 9, false)}, 40)},
		{name: "just so many, no end", list: repeated(units(32), 40)},
	}
}

func TestJoinOfWhatIsMissing(t *testing.T) {
	for _, c := range whatIsMissing() {
		expectJoinAnyhow(t, c.name, c.list, impl.FragPacket{}, 3)
	}
}

// whatDisagrees are lists of which two pieces disagree, the first two ones.
func whatDisagrees() []joinCase {
	return []joinCase{
		{name: "the first byte", list: []impl.FragPacket{part(0, 4, true), lied(part(0, 4, true), 0)}},
		{name: "the last byte", list: []impl.FragPacket{part(4, 8, true), lied(part(4, 8, true), 3)}},
		{name: "the last byte of the last one", list: []impl.FragPacket{part(4, 9, false), lied(part(4, 9, false), 4)}},
		{name: "the last place of all", list: []impl.FragPacket{part(64, 128, false), lied(part(124, 128, true), 3)}},
		{name: "a byte inside a longer one", list: []impl.FragPacket{part(0, 12, true), lied(part(4, 8, true), 2)}},
		{name: "a byte where one begins", list: []impl.FragPacket{part(0, 8, true), lied(part(4, 12, true), 0)}},
		{name: "a byte where one ends", list: []impl.FragPacket{part(0, 8, true), lied(part(4, 12, true), 3)}},
		{name: "a byte of two that are whole", list: []impl.FragPacket{plain(9), lied(plain(9), 5)}},
		{name: "a byte with More and without", list: []impl.FragPacket{part(4, 8, true), lied(part(4, 8, false), 1)}},
		{name: "ends, by one", list: []impl.FragPacket{part(8, 10, false), part(8, 9, false)}},
		{name: "ends, far from each other", list: []impl.FragPacket{part(8, 10, false), part(40, 50, false)}},
		{name: "ends, one without bytes behind it", list: []impl.FragPacket{plain(8), part(12, 12, false)}},
		{name: "ends, one without bytes inside", list: []impl.FragPacket{plain(8), part(4, 4, false)}},
		{name: "ends, one without bytes at the beginning", list: []impl.FragPacket{plain(1), plain(0)}},
		{name: "ends, none has bytes", list: []impl.FragPacket{part(4, 4, false), part(8, 8, false)}},
		{name: "ends, the last place", list: []impl.FragPacket{part(124, 127, false), part(128, 128, false)}},
		{name: "More behind the end", list: []impl.FragPacket{part(4, 8, false), part(8, 12, true)}},
		{name: "More over the end", list: []impl.FragPacket{part(4, 7, false), part(4, 8, true)}},
		{name: "More over the end, by much", list: []impl.FragPacket{part(4, 7, false), part(0, 128, true)}},
		{name: "More far behind the end", list: []impl.FragPacket{plain(1), part(124, 128, true)}},
		{name: "More behind an end without bytes", list: []impl.FragPacket{plain(0), part(0, 4, true)}},
		{name: "More over an end without bytes", list: []impl.FragPacket{part(4, 4, false), part(0, 8, true)}},
		{name: "a byte and an end", list: []impl.FragPacket{plain(8), lied(plain(9), 3)}},
	}
}

// Promise 4, and promise 3: pieces that disagree do so in any order, with any further ones.
func TestJoinOfWhatDisagrees(t *testing.T) {
	further := []impl.FragPacket{part(0, 4, true), part(4, 8, true), part(20, 40, true), part(8, 10, false), part(124, 128, false), plain(0), plain(128), lied(plain(128), 77)}
	for _, c := range whatDisagrees() {
		expectJoinAnyhow(t, c.name, c.list, impl.FragPacket{}, 2)
		for i := range further {
			expectJoinAnyhow(t, fmt.Sprintf("%s, and %d further", c.name, i+1), slices.Concat(c.list, further[:i+1]), impl.FragPacket{}, 2)
			expectJoinAnyhow(t, fmt.Sprintf("%s, and the further one %d", c.name, i), append(slices.Clone(c.list), further[i]), impl.FragPacket{}, 2)
		}
		expectJoinAnyhow(t, c.name+", just so many", repeated(c.list, 40), impl.FragPacket{}, 2)
	}
}

// Each two places of a list: the two that disagree may stand anywhere in it.
func TestJoinFindsWhatDisagreesAnywhere(t *testing.T) {
	for i := range 40 {
		for j := range 40 {
			if i == j {
				continue
			}
			list := repeated([]impl.FragPacket{part(0, 4, true)}, 40)
			list[i], list[j] = part(4, 8, true), lied(part(4, 8, true), 1)
			expectJoin(t, fmt.Sprintf("at %d and %d", i, j), list, impl.FragPacket{}, 2)
		}
	}
}

// Pieces that have no byte in common and of which none tells of the end don't disagree, whatever their bytes are.
func TestJoinOfNeighbours(t *testing.T) {
	a, b := part(0, 4, true), altered(part(4, 8, true), func(p *impl.FragPacket) { copy(p.Data, part(0, 4, true).Data) })
	expectJoinAnyhow(t, "neighbours", []impl.FragPacket{a, b}, impl.FragPacket{}, 3)
	want := altered(plain(10), func(p *impl.FragPacket) { copy(p.Data[4:8], a.Data) })
	expectJoinAnyhow(t, "neighbours, and the end", []impl.FragPacket{a, b, part(8, 10, false)}, want, 0)
}

// foreign are ok pieces that are not alike to those of the plain packet, each by one field.
func foreign() []impl.FragPacket {
	return []impl.FragPacket{
		altered(part(4, 8, true), func(p *impl.FragPacket) { p.Src++ }),
		altered(part(4, 8, true), func(p *impl.FragPacket) { p.Dst++ }),
		altered(part(4, 8, true), func(p *impl.FragPacket) { p.Kind++ }),
		altered(part(4, 8, true), func(p *impl.FragPacket) { p.Id++ }),
		altered(part(4, 8, true), func(p *impl.FragPacket) { p.Src, p.Dst = p.Dst, p.Src }),
	}
}

// kin are ok pieces that are alike to those of the plain packet, whatever else is changed.
func kin() []impl.FragPacket {
	return []impl.FragPacket{
		plain(0),
		plain(128),
		part(4, 8, true),
		part(128, 128, false),
		lied(plain(8), 2),
		altered(plain(8), func(p *impl.FragPacket) { p.Hops = 64 }),
		altered(plain(8), func(p *impl.FragPacket) { p.Whole = true }),
	}
}

func TestAlike(t *testing.T) {
	for i, p := range kin() {
		for j, q := range kin() {
			if !impl.FragAlike(p, q) {
				t.Errorf("%d and %d are not alike", i, j)
			}
		}
		for j, q := range foreign() {
			if impl.FragAlike(p, q) || impl.FragAlike(q, p) {
				t.Errorf("%d and the foreign one %d are alike", i, j)
			}
		}
		for _, c := range wrongPackets() {
			if impl.FragAlike(p, c.packet) || impl.FragAlike(c.packet, p) {
				t.Errorf("%d and %s are alike", i, c.name)
			}
		}
	}
	for _, c := range wrongPackets() {
		if impl.FragAlike(c.packet, c.packet) {
			t.Errorf("%s is alike to itself", c.name)
		}
	}
	for i, p := range foreign() {
		for j, q := range foreign() {
			if impl.FragAlike(p, q) != (i == j) {
				t.Errorf("the foreign ones %d and %d", i, j)
			}
		}
	}
}

func TestJoinRefused(t *testing.T) {
	nothing := impl.FragPacket{}
	expectJoin(t, "nil", nil, nothing, 1)
	expectJoin(t, "empty", []impl.FragPacket{}, nothing, 1)
	for _, c := range wrongPackets() {
		expectJoinAnyhow(t, c.name+" alone", []impl.FragPacket{c.packet}, nothing, 1)
		expectJoinAnyhow(t, c.name, []impl.FragPacket{part(0, 4, true), c.packet, part(4, 8, false)}, nothing, 1)
	}
	for _, p := range foreign() {
		expectJoinAnyhow(t, "foreign", []impl.FragPacket{part(0, 4, true), p, part(8, 9, false)}, nothing, 1)
		expectJoinAnyhow(t, "foreign beside what joins", []impl.FragPacket{plain(9), p}, nothing, 1)
	}
	for _, n := range []int{41, 42, 80, 300} {
		expectJoinAnyhow(t, "too many of one", repeated([]impl.FragPacket{plain(9)}, n), nothing, 1)
		expectJoinAnyhow(t, "too many", repeated(append(units(31), part(124, 128, false)), n), nothing, 1)
	}
}

// Codes are looked for in their order, where more than one would do.
func TestJoinOrderOfCodes(t *testing.T) {
	nothing := impl.FragPacket{}
	outside := append(foreign(), plain(129), part(0, 3, true), impl.FragPacket{})
	for _, c := range whatDisagrees() {
		for _, p := range outside {
			expectJoinAnyhow(t, c.name+", 1 ahead of 2", append(slices.Clone(c.list), p), nothing, 1)
		}
		expectJoinAnyhow(t, c.name+", too many, 1 ahead of 2", repeated(c.list, 41), nothing, 1)
	}
	for _, c := range whatIsMissing() {
		for _, p := range outside {
			expectJoinAnyhow(t, c.name+", 1 ahead of 3", append(slices.Clone(c.list[:min(len(c.list), 38)]), p), nothing, 1)
		}
		expectJoinAnyhow(t, c.name+", too many, 1 ahead of 3", repeated(c.list, 41), nothing, 1)
	}
	expectJoinAnyhow(t, "no end, 2 ahead of 3", []impl.FragPacket{part(0, 8, true), lied(part(4, 8, true), 0)}, nothing, 2)
	expectJoinAnyhow(t, "a gap, 2 ahead of 3", []impl.FragPacket{part(8, 12, true), lied(part(8, 12, true), 0), part(20, 21, false)}, nothing, 2)
	expectJoinAnyhow(t, "two ends, 2 ahead of 3", []impl.FragPacket{part(8, 12, false), part(20, 21, false)}, nothing, 2)
	expectJoinAnyhow(t, "all up to one end, 2 ahead of 0", []impl.FragPacket{plain(8), part(8, 12, true)}, nothing, 2)
}
