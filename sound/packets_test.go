package sound_test

import (
	"bytes"
	"fmt"
	"math"
	"math/rand"
	"slices"
	"testing"

	"flyover/api"
	"flyover/sound"
)

// sealed is a seal by the definition, in integers.
func sealed(key api.Key, s []byte) api.Key {
	var out api.Key
	for j := range 8 {
		x := int(key[j])
		for _, b := range s {
			x = ((4*j+3)*x + int(b) + 5*j + 2) % 256
		}
		out[j] = byte(x)
	}
	return out
}

// P1.4: seals.
func TestSeal(t *testing.T) {
	for _, x := range []struct {
		s []byte
		k api.Key
	}{
		{[]byte{5}, api.Key{7, 12, 17, 22, 27, 32, 37, 42}},
		{[]byte{5, 1}, api.Key{24, 92, 200, 92, 24, 252, 8, 60}},
	} {
		k, e := sound.Seal(zeroKey, x.s)
		is(t, fmt.Sprint("Seal ", x.s), k, x.k)
		is(t, "error", e, api.OK)
	}
	k, e := sound.Seal(otherKey, nil)
	is(t, "Seal of nothing", k, otherKey)
	is(t, "error", e, api.OK)
	r := seeded()
	long := make([]byte, api.MaxStream)
	r.Read(long)
	for _, s := range [][]byte{long[:1], long[:2], long[:100], long} {
		k, e := sound.Seal(otherKey, s)
		is(t, fmt.Sprint("Seal of ", len(s)), k, sealed(otherKey, s))
		is(t, "error", e, api.OK)
	}
	k, e = sound.Seal(otherKey, make([]byte, api.MaxStream+1))
	is(t, "Seal of too much", e, api.ErrLong)
	is(t, "beside the error", k, api.Key{})
	// One changed byte, or another key, changes each byte of the seal, or the seal.
	a, _ := sound.Seal(otherKey, []byte{1, 2, 3})
	b, _ := sound.Seal(otherKey, []byte{1, 9, 3})
	for j := range a {
		is(t, "a byte that is the same", a[j] == b[j], false)
	}
	b, _ = sound.Seal(zeroKey, []byte{1, 2, 3})
	is(t, "the same seal by another key", a == b, false)
}

// packet returns a packet of any form.
func packet(r *rand.Rand) sound.Packet {
	p := sound.Packet{Station: r.Intn(256), Kind: r.Intn(256), Counter: r.Intn(65536), Length: r.Intn(19)}
	for i := range p.Length {
		p.Piece[i] = byte(r.Intn(256))
	}
	return p
}

// sealedFrame is a frame with such a body and the right seal.
func sealedFrame(key api.Key, body ...byte) [32]byte {
	var s [32]byte
	copy(s[:24], body)
	k := sealed(key, s[:24])
	copy(s[24:], k[:])
	return s
}

var badPackets = []struct {
	p sound.Packet
	e api.Errno
}{
	{sound.Packet{Station: 256}, api.ErrRange},
	{sound.Packet{Station: -1}, api.ErrRange},
	{sound.Packet{Kind: 256}, api.ErrRange},
	{sound.Packet{Kind: -1}, api.ErrRange},
	{sound.Packet{Counter: 65536}, api.ErrRange},
	{sound.Packet{Counter: -1}, api.ErrRange},
	{sound.Packet{Length: 19}, api.ErrRange},
	{sound.Packet{Length: -1}, api.ErrRange},
	{sound.Packet{Length: math.MinInt}, api.ErrRange},
	{sound.Packet{Length: math.MaxInt, Piece: [18]byte{1}}, api.ErrRange},
	{sound.Packet{Kind: 256, Piece: [18]byte{1}}, api.ErrRange},
	{sound.Packet{Piece: [18]byte{1}}, api.ErrForm},
	{sound.Packet{Length: 1, Piece: [18]byte{1, 1}}, api.ErrForm},
	{sound.Packet{Length: 17, Piece: [18]byte{17: 1}}, api.ErrForm},
}

// P1.4: frames of packets.
func TestEncode(t *testing.T) {
	p := sound.Packet{Station: 4, Kind: 2, Counter: 258, Length: 1, Piece: [18]byte{9}}
	f, e := sound.Encode(otherKey, p)
	is(t, "Encode", f, sealedFrame(otherKey, 93, 4, 2, 2, 1, 1, 9))
	is(t, "error", e, api.OK)
	p = sound.Packet{Station: 255, Kind: 255, Counter: 65535, Length: 18, Piece: [18]byte(bytes.Repeat([]byte{255}, 18))}
	f, e = sound.Encode(zeroKey, p)
	is(t, "Encode of the greatest", f, sealedFrame(zeroKey, append([]byte{93, 255, 255, 255, 255, 18}, p.Piece[:]...)...))
	is(t, "error", e, api.OK)
	f, e = sound.Encode(zeroKey, sound.Packet{Length: 3})
	is(t, "a piece of zeros", f, sealedFrame(zeroKey, 93, 0, 0, 0, 0, 3))
	is(t, "error", e, api.OK)
	for i, x := range badPackets {
		f, e := sound.Encode(otherKey, x.p)
		is(t, fmt.Sprint("bad Encode ", i), e, x.e)
		is(t, "frame beside the error", f, [32]byte{})
	}
}

// P1.4: packets of frames.
func TestDecode(t *testing.T) {
	p, e := sound.Decode(otherKey, sealedFrame(otherKey, 93, 4, 2, 2, 1, 1, 9))
	is(t, "Decode", p, sound.Packet{Station: 4, Kind: 2, Counter: 258, Length: 1, Piece: [18]byte{9}})
	is(t, "error", e, api.OK)
	good := sealedFrame(otherKey, 93, 1, 2, 3, 4, 0)
	for i, x := range []struct {
		key api.Key
		f   [32]byte
		e   api.Errno
	}{
		{otherKey, good, api.OK},
		{zeroKey, good, api.ErrCheck},
		{otherKey, sealedFrame(otherKey, 94, 1, 2, 3, 4, 0), api.ErrForm},
		{otherKey, [32]byte{}, api.ErrForm},
		{otherKey, [32]byte{93}, api.ErrCheck},
		{otherKey, sealedFrame(zeroKey, 93, 1, 2, 3, 4, 19), api.ErrCheck}, // the seal comes before the packet
		{otherKey, sealedFrame(otherKey, 93, 1, 2, 3, 4, 19), api.ErrRange},
		{otherKey, sealedFrame(otherKey, 93, 1, 2, 3, 4, 255), api.ErrRange},
		{otherKey, sealedFrame(otherKey, 93, 1, 2, 3, 4, 0, 1), api.ErrForm},
		{otherKey, sealedFrame(otherKey, 93, 1, 2, 3, 4, 2, 1, 1, 1), api.ErrForm},
	} {
		p, e := sound.Decode(x.key, x.f)
		is(t, fmt.Sprint("Decode ", i), e, x.e)
		if e != api.OK {
			is(t, "packet beside the error", p, sound.Packet{})
		}
	}
	for i := range good {
		damaged := good
		damaged[i]++
		_, e := sound.Decode(otherKey, damaged)
		want := api.ErrCheck
		if i == 0 {
			want = api.ErrForm
		}
		is(t, fmt.Sprint("Decode with another byte ", i), e, want)
	}
}

// received is the definition: at each index, the frame of a packet or a byte that is skipped.
func received(key api.Key, s []byte) ([]sound.Packet, []api.Span) {
	var l []sound.Packet
	var skipped []api.Span
	for i := 0; i < len(s); {
		if i+32 <= len(s) {
			if p, e := sound.Decode(key, [32]byte(s[i:i+32])); e == api.OK {
				l = append(l, p)
				i += 32
				continue
			}
		}
		if n := len(skipped); n > 0 && skipped[n-1].To == i {
			skipped[n-1].To++
		} else {
			skipped = append(skipped, api.Span{From: i, To: i + 1})
		}
		i++
	}
	return l, skipped
}

// P1.4: what is received of a stream.
func TestReceived(t *testing.T) {
	p := sound.Packet{Station: 4, Kind: 2, Counter: 258, Length: 1, Piece: [18]byte{9}}
	q := sound.Packet{Station: 93, Kind: 93, Counter: 93 * 257, Length: 18, Piece: [18]byte(bytes.Repeat([]byte{93}, 18))}
	f, _ := sound.Encode(otherKey, p)
	g, _ := sound.Encode(otherKey, q)
	foreign, _ := sound.Encode(zeroKey, p)
	badLength := sealedFrame(otherKey, 93, 1, 2, 3, 4, 19)
	for i, x := range []struct {
		s       []byte
		l       []sound.Packet
		skipped []api.Span
	}{
		{nil, nil, nil},
		{f[:], []sound.Packet{p}, nil},
		{slices.Concat(f[:], g[:]), []sound.Packet{p, q}, nil},
		{slices.Concat([]byte{1, 2}, f[:], []byte{5}), []sound.Packet{p}, []api.Span{{From: 0, To: 2}, {From: 34, To: 35}}},
		{slices.Concat([]byte{93}, g[:], []byte{93, 93}, f[:]), []sound.Packet{q, p}, []api.Span{{From: 0, To: 1}, {From: 33, To: 35}}},
		{f[:31], nil, []api.Span{{From: 0, To: 31}}},
		{slices.Concat(f[:31], f[:]), []sound.Packet{p}, []api.Span{{From: 0, To: 31}}},
		{slices.Concat(f[:], f[:31]), []sound.Packet{p}, []api.Span{{From: 32, To: 63}}},
		{slices.Concat(foreign[:], f[:]), []sound.Packet{p}, []api.Span{{From: 0, To: 32}}},
		{slices.Concat(badLength[:], f[:]), []sound.Packet{p}, []api.Span{{From: 0, To: 32}}},
	} {
		l, skipped, e := sound.Received(otherKey, x.s)
		are(t, fmt.Sprint("Received ", i), l, x.l)
		are(t, fmt.Sprint("skipped ", i), skipped, x.skipped)
		is(t, "error", e, api.OK)
	}
	most := bytes.Repeat(f[:], 1024)
	l, skipped, e := sound.Received(otherKey, most)
	is(t, "the longest stream", e, api.OK)
	are(t, "its packets", l, slices.Repeat([]sound.Packet{p}, 1024))
	are(t, "its skipped bytes", skipped, nil)
	l, skipped, e = sound.Received(otherKey, append(most, 1))
	is(t, "a longer stream", e, api.ErrLong)
	is(t, "packets beside the error", len(l), 0)
	is(t, "spans beside the error", len(skipped), 0)
	r := seeded()
	for range 200 {
		var s []byte
		for range 20 {
			f, _ := sound.Encode(otherKey, packet(r))
			if r.Intn(3) == 0 {
				f[r.Intn(32)] ^= byte(1 + r.Intn(255))
			}
			s = append(s, bytes.Repeat([]byte{93}, r.Intn(2)*r.Intn(40))...)
			s = append(s, f[:32-r.Intn(2)*r.Intn(32)]...)
		}
		l, skipped, e := sound.Received(otherKey, s)
		wantL, wantSkipped := received(otherKey, s)
		is(t, "error", e, api.OK)
		are(t, "Received", l, wantL)
		are(t, "skipped", skipped, wantSkipped)
	}
}

// counted returns packets of a station with counters.
func counted(station int, counters ...int) []sound.Packet {
	var l []sound.Packet
	for _, n := range counters {
		l = append(l, sound.Packet{Station: station, Counter: n})
	}
	return l
}

// P1.4: lost counters.
func TestLost(t *testing.T) {
	mixed := slices.Concat(counted(1, 4), counted(2, 90), counted(1, 6), counted(2, 92), counted(1, 7, 65535), counted(1, 1))
	for i, x := range []struct {
		l       []sound.Packet
		station int
		lost    []int
		e       api.Errno
	}{
		{nil, 1, nil, api.OK},
		{counted(1, 7), 1, nil, api.OK},
		{counted(1, 65535, 2), 1, []int{0, 1}, api.OK},
		{counted(1, 65534, 1), 1, []int{65535, 0}, api.OK},
		{counted(1, 4, 5, 8), 1, []int{6, 7}, api.OK},
		{counted(1, 5, 8, 10), 1, []int{6, 7, 9}, api.OK},
		{counted(2, 5, 8, 10), 1, nil, api.OK},
		{counted(255, 5, 7), 255, []int{6}, api.OK},
		{counted(0, 5, 7), 0, []int{6}, api.OK},
		{mixed, 2, []int{91}, api.OK},
		{mixed, 1, nil, api.ErrMany},
		{mixed[:5], 1, []int{5}, api.OK},
		{counted(1, 0, 257), 1, below(257)[1:], api.OK},
		{counted(1, 0, 258), 1, nil, api.ErrMany},
		{counted(1, 0, 129, 258), 1, slices.Concat(below(129)[1:], below(258)[130:]), api.OK},
		{counted(1, 0, 129, 259), 1, nil, api.ErrMany},
		{counted(1, 3, 3), 1, nil, api.ErrMany},
		{counted(1, 3, 2), 1, nil, api.ErrMany},
		{counted(1, slices.Repeat([]int{3}, 1024)...), 1, nil, api.ErrMany},
		{counted(1, slices.Repeat([]int{3}, 1024)...), 2, nil, api.OK},
		{counted(1, slices.Repeat([]int{3}, 1025)...), 2, nil, api.ErrMany},
		{counted(1, 3, 3), 256, nil, api.ErrRange},
		{counted(1, 3), -1, nil, api.ErrRange},
		{counted(300, make([]int, 1025)...), -1, nil, api.ErrMany},
	} {
		lost, e := sound.Lost(x.l, x.station)
		are(t, fmt.Sprint("Lost ", i), lost, x.lost)
		is(t, fmt.Sprint("error of Lost ", i), e, x.e)
	}
	for i, x := range badPackets {
		lost, e := sound.Lost([]sound.Packet{{}, x.p}, -1)
		is(t, fmt.Sprint("bad Lost ", i), e, x.e)
		is(t, "beside the error", len(lost), 0)
	}
	_, e := sound.Lost([]sound.Packet{{Piece: [18]byte{1}}, {Station: -1}}, 1)
	is(t, "the first packet decides", e, api.ErrForm)
}
