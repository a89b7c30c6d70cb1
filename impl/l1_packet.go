// Package impl: packets, cut and joined again.
package impl

import "bytes"

// Limits of packets.
const (
	FragUnit    = 4
	FragHead    = 8
	FragMaxData = 128
	FragMaxHops = 64
	FragMaxId   = 255
	FragMaxKind = 7
	FragMaxAddr = 65535
)

// FragPacket is a packet, or a piece of one: its bytes from Off on, and whether there are more behind them.
type FragPacket struct {
	Src   int
	Dst   int
	Kind  int
	Id    int
	Hops  int
	Whole bool
	Off   int
	More  bool
	Data  []byte
}

// packetKey is what all pieces of one packet have in common.
type packetKey struct {
	src  int
	dst  int
	kind int
	id   int
}

// keyedPacket has its key as one value: FragPacket's fields lie flat, so that its key can't be compared by itself.
type keyedPacket struct {
	packetKey
	hops  int
	whole bool
	off   int
	more  bool
	count int // of its bytes: no check asks for more of them
}

// packetCheck is one of the things that an ok packet must hold to.
type packetCheck struct {
	holds func(p keyedPacket) bool
}

// FragOk says whether a packet is ok.
func FragOk(p FragPacket) bool {
	k := keyed(p)
	for _, check := range packetChecks() {
		if !check.holds(k) {
			return false
		}
	}
	return true
}

// FragSize is how many bytes a packet has on a wire.
func FragSize(p FragPacket) int {
	if !FragOk(p) {
		return 0
	}
	return FragHead + len(p.Data)
}

// FragHop is a packet with one hop less.
func FragHop(p FragPacket) (FragPacket, int) {
	if !FragOk(p) {
		return FragPacket{}, 1
	}
	if p.Hops == 1 {
		return FragPacket{}, 2
	}
	next := copyPacket(p)
	next.Hops--
	return next, 0
}

func keyed(p FragPacket) keyedPacket {
	return keyedPacket{
		packetKey: packetKey{src: p.Src, dst: p.Dst, kind: p.Kind, id: p.Id},
		hops:      p.Hops,
		whole:     p.Whole,
		off:       p.Off,
		more:      p.More,
		count:     len(p.Data),
	}
}

func packetChecks() []packetCheck {
	return []packetCheck{
		{holds: keyedPacket.keyWithinLimits},
		{holds: keyedPacket.hopsWithinLimits},
		{holds: keyedPacket.beginsAtUnit},
		{holds: keyedPacket.endsWithinLimits},
		{holds: keyedPacket.leavesUnitsBehind},
		{holds: keyedPacket.wholeIsUncut},
	}
}

// keyWithinLimits leans on this: only a key that is within the limits already is its own nearest one.
func (p keyedPacket) keyWithinLimits() bool {
	return p.packetKey == p.nearest()
}

func (p keyedPacket) hopsWithinLimits() bool {
	return p.hops == clamp(p.hops, 1, FragMaxHops)
}

func (p keyedPacket) beginsAtUnit() bool {
	return p.off == clamp(p.off, 0, FragMaxData) && p.off%FragUnit == 0
}

// endsWithinLimits adds nothing to off, as a very great one would wrap round.
func (p keyedPacket) endsWithinLimits() bool {
	return p.count <= FragMaxData && p.off <= FragMaxData-p.count
}

// leavesUnitsBehind: what follows a piece with More must be able to begin right behind it.
func (p keyedPacket) leavesUnitsBehind() bool {
	return !p.more || p.count > 0 && p.count%FragUnit == 0
}

func (p keyedPacket) wholeIsUncut() bool {
	return !p.whole || p.off == 0 && !p.more
}

// nearest is the key within the limits that is closest to this one.
func (k packetKey) nearest() packetKey {
	return packetKey{
		src:  clamp(k.src, 0, FragMaxAddr),
		dst:  clamp(k.dst, 0, FragMaxAddr),
		kind: clamp(k.kind, 1, FragMaxKind),
		id:   clamp(k.id, 0, FragMaxId),
	}
}

func clamp(n int, least int, most int) int {
	return min(max(n, least), most)
}

// copyPacket gives a packet bytes of its own: an answer shares none with an argument.
func copyPacket(p FragPacket) FragPacket {
	p.Data = bytes.Clone(p.Data)
	return p
}
