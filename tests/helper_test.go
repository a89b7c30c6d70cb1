package tests

import (
	"bytes"
	"slices"
	"testing"

	"loop.example/ternfrag/impl"
)

// numbered is a list of n bytes, each different from its neighbours.
func numbered(n int) []byte {
	list := make([]byte, n)
	for i := range list {
		list[i] = byte(i*7 + 1)
	}
	return list
}

// plain is a packet in the middle of all limits, with n bytes.
func plain(n int) impl.FragPacket {
	return impl.FragPacket{Src: 10, Dst: 20, Kind: 3, Id: 40, Hops: 5, Data: numbered(n)}
}

// changed is a plain packet of 8 bytes with something changed.
func changed(change func(p *impl.FragPacket)) impl.FragPacket {
	p := plain(8)
	change(&p)
	return p
}

// same compares all fields; the empty list and the nil list are the same.
func same(p impl.FragPacket, q impl.FragPacket) bool {
	return p.Src == q.Src && p.Dst == q.Dst && p.Kind == q.Kind && p.Id == q.Id && p.Hops == q.Hops &&
		p.Whole == q.Whole && p.Off == q.Off && p.More == q.More && bytes.Equal(p.Data, q.Data)
}

func isNothing(p impl.FragPacket) bool {
	return same(p, impl.FragPacket{})
}

// deepCopy is a packet that shares no bytes with p, made without the program.
func deepCopy(p impl.FragPacket) impl.FragPacket {
	p.Data = append([]byte(nil), p.Data...)
	return p
}

func deepCopies(list []impl.FragPacket) []impl.FragPacket {
	var out []impl.FragPacket
	for _, p := range list {
		out = append(out, deepCopy(p))
	}
	return out
}

// scribble writes over a list and the spare room behind it.
func scribble(list []byte) {
	room := list[:cap(list)]
	for i := range room {
		room[i] ^= 0xff
	}
}

// roomy gives p's bytes spare room behind them, in the midst of a greater list, which is the second answer.
func roomy(p impl.FragPacket) (impl.FragPacket, []byte) {
	around := bytes.Repeat([]byte{0xa5}, len(p.Data)+64)
	copy(around[16:], p.Data)
	p.Data = around[16 : 16+len(p.Data)]
	return p, around
}

// mustCut cuts what must not be refused.
func mustCut(t *testing.T, p impl.FragPacket, most int) []impl.FragPacket {
	t.Helper()
	list, code := impl.FragCut(p, most)
	if code != 0 {
		t.Fatalf("FragCut(%+v, %d): code %d", p, most, code)
	}
	return list
}

func sameList(list []impl.FragPacket, other []impl.FragPacket) bool {
	return slices.EqualFunc(list, other, same)
}
