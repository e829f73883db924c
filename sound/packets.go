package sound

import (
	"iter"

	"flyover/api"
	"flyover/check"
)

// sealSize is how many bytes a seal has.
const sealSize = 8

// sealed is how many bytes of a frame its seal covers.
const sealed = Size - sealSize

// prefix is how many bytes of a frame come before the piece.
const prefix = sealed - MaxPiece

// maxByte is the greatest station and kind.
const maxByte = 255

// placed is a packet with its index: that of its frame's first byte in a stream, or its own in a list.
type placed struct {
	Packet
	at int
}

// seal returns the seal of any number of bytes.
func seal(key api.Key, s []byte) api.Key {
	for j, x := range key {
		factor, addend := byte(4*j+3), byte(5*j+2)
		for _, b := range s {
			// The bytes wrap around, which is the remainder by 256.
			x = factor*x + b + addend
		}
		key[j] = x
	}
	return key
}

// Seal returns the seal of bytes by a key.
func Seal(key api.Key, s []byte) (api.Key, api.Errno) {
	if len(s) > api.MaxStream {
		return api.Key{}, api.ErrLong
	}
	return seal(key, s), api.OK
}

// check returns the first error of a packet, or OK.
func (p Packet) check() api.Errno {
	if e := check.First(checkStation(p.Station), check.Within(p.Kind, 0, maxByte), check.Within(p.Counter, 0, MaxCounter), check.Within(p.Length, 0, MaxPiece)); e != api.OK {
		return e
	}
	cut := p
	clear(cut.Piece[p.Length:])
	if cut != p {
		return api.ErrForm
	}
	return api.OK
}

func checkStation(station int) api.Errno {
	return check.Within(station, 0, maxByte)
}

// Encode returns the frame of a packet by a key.
func Encode(key api.Key, p Packet) ([Size]byte, api.Errno) {
	if e := p.check(); e != api.OK {
		return [Size]byte{}, e
	}
	s := [Size]byte{Mark, byte(p.Station), byte(p.Kind), byte(p.Counter), byte(p.Counter >> 8), byte(p.Length)}
	copy(s[prefix:sealed], p.Piece[:])
	end := seal(key, s[:sealed])
	copy(s[sealed:], end[:])
	return s, api.OK
}

// Decode returns the packet of a frame by a key.
func Decode(key api.Key, s [Size]byte) (Packet, api.Errno) {
	if s[0] != Mark {
		return Packet{}, api.ErrForm
	}
	if api.Key(s[sealed:]) != seal(key, s[:sealed]) {
		return Packet{}, api.ErrCheck
	}
	p := Packet{
		Station: int(s[1]),
		Kind:    int(s[2]),
		Counter: int(s[3]) + int(s[4])<<8,
		Length:  int(s[5]),
		Piece:   [MaxPiece]byte(s[prefix:sealed]),
	}
	if e := p.check(); e != api.OK {
		return Packet{}, e
	}
	return p, api.OK
}

// frames visits the packets that are received of a stream.
func frames(key api.Key, s []byte) iter.Seq[placed] {
	return func(yield func(placed) bool) {
		for at := 0; at+Size <= len(s); {
			p, e := Decode(key, [Size]byte(s[at:at+Size]))
			if e != api.OK {
				at++
				continue
			}
			if !yield(placed{p, at}) {
				return
			}
			at += Size
		}
	}
}

// Received returns the packets that are received by a key, and the spans of bytes that are skipped.
func Received(key api.Key, s []byte) ([]Packet, []api.Span, api.Errno) {
	if len(s) > MaxPackets*Size {
		return nil, nil, api.ErrLong
	}
	var l []Packet
	var skipped []api.Span
	skip := func(from, to int) {
		if from < to {
			skipped = append(skipped, api.Span{From: from, To: to})
		}
	}
	end := 0
	for p := range frames(key, s) {
		l = append(l, p.Packet)
		skip(end, p.at)
		end = p.at + Size
	}
	skip(end, len(s))
	return l, skipped, api.OK
}

// following returns the counter after a counter.
func following(counter int) int {
	return (counter + 1) % (MaxCounter + 1)
}

// Lost returns the counters of a station that are lost.
func Lost(l []Packet, station int) ([]int, api.Errno) {
	if e := check.First(check.AtMost(l, MaxPackets), check.Each(l, Packet.check), checkStation(station)); e != api.OK {
		return nil, e
	}
	var lost []int
	last := placed{at: None}
search:
	for i, p := range l {
		if p.Station != station {
			continue
		}
		if last.at != None {
			for c := following(last.Counter); c != p.Counter; c = following(c) {
				lost = append(lost, c)
				if len(lost) > api.MaxList {
					break search
				}
			}
		}
		last = placed{p, i}
	}
	if e := check.AtMost(lost, api.MaxList); e != api.OK {
		return nil, e
	}
	return lost, api.OK
}
