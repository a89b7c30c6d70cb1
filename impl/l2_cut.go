package impl

import "iter"

// FragCut cuts a packet into pieces of at most so many bytes on a wire.
func FragCut(p FragPacket, most int) ([]FragPacket, int) {
	if code := cutRefusal(p, most); code != 0 {
		return nil, code
	}
	return collect(piecesOf(p, most)), 0
}

// cutRefusal is the code with which a packet is not cut, or 0.
func cutRefusal(p FragPacket, most int) int {
	switch {
	case !FragOk(p):
		return 1
	case most < FragHead+FragUnit:
		return 2
	case p.Whole && FragSize(p) > most:
		return 3
	}
	return 0
}

// piecesOf tells the pieces one by one. What is left is asked anew each time whether it fits as it is: the last piece
// need not hold whole units, so that it may be longer than those ahead of it.
func piecesOf(p FragPacket, most int) iter.Seq[FragPacket] {
	return func(yield func(FragPacket) bool) {
		count := (most - FragHead) / FragUnit * FragUnit
		left := p
		for FragSize(left) > most {
			if !yield(firstBytes(left, count)) {
				return
			}
			left = behindBytes(left, count)
		}
		yield(copyPacket(left))
	}
}

// firstBytes is the piece with so many bytes from the beginning of p, of which others are left.
func firstBytes(p FragPacket, count int) FragPacket {
	p.Data = p.Data[:count]
	p.More = true
	return copyPacket(p)
}

// behindBytes is what is left of p behind so many bytes; it is read alone, so that it may share p's bytes.
func behindBytes(p FragPacket, count int) FragPacket {
	p.Off += count
	p.Data = p.Data[count:]
	return p
}

// collect puts all that is told into a new list.
func collect[T any](told iter.Seq[T]) []T {
	var list []T
	for item := range told {
		list = append(list, item)
	}
	return list
}
