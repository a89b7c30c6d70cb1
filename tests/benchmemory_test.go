package tests

import (
	"slices"
	"testing"

	"loop.example/ternfrag/impl"
)

// roomyBench gives each list of a bench spare room behind it; the last answer are the bytes around those of the pieces.
func roomyBench(b impl.FragBench) (impl.FragBench, [][]byte) {
	out := impl.FragBench{Now: b.Now, Slots: make([]impl.FragSlot, 0, len(b.Slots)+3)}
	var arounds [][]byte
	for _, s := range b.Slots {
		pieces, around := roomyList(s.Pieces)
		s.Pieces = pieces
		out.Slots = append(out.Slots, s)
		arounds = append(arounds, around...)
	}
	return out, arounds
}

// withRoom is a copy of a bench with all that lies in the spare room of its lists, as if it were in them.
func withRoom(b impl.FragBench) impl.FragBench {
	out := impl.FragBench{Now: b.Now}
	for _, s := range b.Slots[:cap(b.Slots)] {
		s.Pieces = deepCopies(s.Pieces[:cap(s.Pieces)])
		out.Slots = append(out.Slots, s)
	}
	return out
}

// bytesOf are the bytes of a packet and of all pieces of a bench, those in spare room among them.
func bytesOf(b impl.FragBench, p impl.FragPacket) [][]byte {
	out := [][]byte{p.Data}
	for _, s := range b.Slots[:cap(b.Slots)] {
		for _, q := range s.Pieces[:cap(s.Pieces)] {
			out = append(out, q.Data)
		}
	}
	return out
}

// scribbleBench writes over all lists of a bench and their spare room, the innermost first.
func scribbleBench(b impl.FragBench) {
	for _, data := range bytesOf(b, impl.FragPacket{}) {
		scribble(data)
	}
	for _, s := range b.Slots[:cap(b.Slots)] {
		room := s.Pieces[:cap(s.Pieces)]
		for i := range room {
			room[i].Id, room[i].Data = -7, nil
		}
	}
	room := b.Slots[:cap(b.Slots)]
	for i := range room {
		room[i] = impl.FragSlot{Since: -7}
	}
}

// tickOnly makes FragTick answer what FragTake does, to ask both of the same things.
func tickOnly(b impl.FragBench, _ impl.FragPacket) (impl.FragBench, impl.FragPacket, int) {
	left, code := impl.FragTick(b)
	return left, impl.FragPacket{}, code
}

// okOnly is FragBenchOk in the same shape.
func okOnly(b impl.FragBench, _ impl.FragPacket) (impl.FragBench, impl.FragPacket, int) {
	impl.FragBenchOk(b)
	return impl.FragBench{}, impl.FragPacket{}, 0
}

type benchCall func(b impl.FragBench, p impl.FragPacket) (impl.FragBench, impl.FragPacket, int)

// expectNothingWritten asks whether the arguments, and what lies behind their ends, are what they were.
func expectNothingWritten(t *testing.T, name string, ask benchCall, b impl.FragBench, p impl.FragPacket) {
	t.Helper()
	b, arounds := roomyBench(b)
	p, around := roomy(p)
	arounds = append(arounds, around)
	if len(b.Slots) > 0 {
		b.Slots[:cap(b.Slots)][len(b.Slots)] = waiting(8, plain(5))
		for _, s := range b.Slots {
			s.Pieces[:cap(s.Pieces)][len(s.Pieces)] = plain(6)
		}
	}
	want, before := withRoom(b), texts(arounds)
	ask(b, p)
	if !sameBench(withRoom(b), want) || !slices.Equal(texts(arounds), before) {
		t.Fatalf("%s: something was written", name)
	}
}

// expectApart asks whether answers share memory with arguments, in both directions, or with other answers.
func expectApart(t *testing.T, name string, ask benchCall, b impl.FragBench, p impl.FragPacket) {
	t.Helper()
	b, arounds := roomyBench(b)
	p, around := roomy(p)
	arounds = append(arounds, around)
	want, before := withRoom(b), texts(arounds)
	left, told, _ := ask(b, p)
	otherLeft, otherTold, _ := ask(b, p)
	leftWas, toldWas := copyBench(otherLeft), deepCopy(otherTold)
	scribble(told.Data)
	scribbleBench(left)
	if !sameBench(withRoom(b), want) || !slices.Equal(texts(arounds), before) {
		t.Fatalf("%s: an answer shares memory with an argument", name)
	}
	if !sameBench(otherLeft, leftWas) || !same(otherTold, toldWas) {
		t.Fatalf("%s: two answers share memory", name)
	}
	for _, data := range arounds {
		scribble(data)
	}
	scribbleBench(b)
	if !sameBench(otherLeft, leftWas) || !same(otherTold, toldWas) {
		t.Fatalf("%s: an argument shares memory with an answer", name)
	}
}

// expectListsApart writes over the lists of one answer one by one, and asks for the others.
func expectListsApart(t *testing.T, name string, ask benchCall, b impl.FragBench, p impl.FragPacket) {
	t.Helper()
	left, told, _ := ask(b, p)
	lists := bytesOf(left, told)
	for i, data := range lists {
		before := texts(slices.Concat(lists[:i], lists[i+1:]))
		scribble(data)
		if !slices.Equal(texts(slices.Concat(lists[:i], lists[i+1:])), before) {
			t.Fatalf("%s: two lists of bytes of one answer share memory", name)
		}
	}
	for i, s := range left.Slots {
		was := copyBench(left)
		clear(s.Pieces[:cap(s.Pieces)])
		was.Slots[i].Pieces = s.Pieces
		if !sameBench(left, was) {
			t.Fatalf("%s: two lists of pieces of one answer share memory", name)
		}
	}
}

// Answers are new memory, also where the bench stays, and arguments stay what they are.
func TestBenchMemory(t *testing.T) {
	for _, c := range takeCases() {
		expectNothingWritten(t, c.name, impl.FragTake, c.bench, c.came)
		expectApart(t, c.name, impl.FragTake, c.bench, c.came)
		expectListsApart(t, c.name, impl.FragTake, c.bench, c.came)
	}
	for _, c := range okBenches() {
		for _, p := range []impl.FragPacket{plain(9), part(0, 4, true), part(8, 12, true), part(12, 13, false), ofId(3, part(0, 8, true)), plain(129)} {
			expectNothingWritten(t, c.name, impl.FragTake, c.bench, p)
			expectApart(t, c.name, impl.FragTake, c.bench, p)
			expectListsApart(t, c.name, impl.FragTake, c.bench, p)
		}
		for name, ask := range map[string]benchCall{", tick": tickOnly, ", ok": okOnly} {
			expectNothingWritten(t, c.name+name, ask, c.bench, plain(3))
			expectApart(t, c.name+name, ask, c.bench, plain(3))
			expectListsApart(t, c.name+name, ask, c.bench, plain(3))
		}
	}
	for _, c := range wrongBenches() {
		if len(c.bench.Slots) > 5 {
			continue
		}
		for name, ask := range map[string]benchCall{", take": impl.FragTake, ", tick": tickOnly, ", ok": okOnly} {
			expectNothingWritten(t, c.name+name, ask, c.bench, part(0, 4, true))
		}
	}
}
