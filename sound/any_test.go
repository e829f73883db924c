package sound_test

import (
	"math"
	"slices"
	"strings"
	"testing"

	"flyover/api"
	"flyover/sound"
)

var (
	anyInts    = []int{math.MinInt, -1 << 40, -2, -1, 0, 1, 9, 18, 19, 120, 121, 255, 256, 1000, 65536, 86400, api.MaxNumber, api.MaxEnergy, 1 << 62, math.MaxInt}
	anyFloats  = []float32{nan, inf, -inf, 0, 1, 0.01, -1024, 4096, math.MaxFloat32, -math.MaxFloat32, math.SmallestNonzeroFloat32}
	anyStrings = []string{"", "\n", "\x00", "\xff\xfe\n", "energies", "energies 1\nenergy", strings.Repeat("energies 1\n", 300), strings.Repeat("9", 1<<20), strings.Repeat(" ", 4096), "SND1", "SND1\xff\xff" + strings.Repeat("\x00", 8)}
)

// tryInts calls what takes integers.
func tryInts(a, b int) {
	sound.Draw(a, b)
	sound.CheckRatio(api.Ratio{Num: a, Den: b})
	sound.CheckEnergy(a)
	sound.Threshold(a)
	sound.Level(a)
	sound.Range(a)
	sound.Weighted(api.Spectrum{a, b}, [api.MaxBands]int{b, a})
	sound.Through(api.Interval{Low: a, High: b}, api.Interval{Low: b, High: a})
	for _, l := range [][]int{nil, {a}, {a, b}, slices.Repeat([]int{a}, 2000)} {
		sound.Sum(l)
		sound.Average(l, []int{b, a})
		sound.Average(l, slices.Repeat([]int{b}, len(l)))
		sound.Maximum(l)
		sound.Above(l, b)
		sound.Print(l)
		sound.Penalized(slices.Repeat([]sound.Heard{{Tick: a, Energy: b}}, len(l)))
	}
	for _, p := range []sound.Packet{{Station: a, Counter: b}, {Kind: a, Length: b}, {Counter: a, Length: b, Piece: [18]byte{1}}} {
		sound.Encode(otherKey, p)
		sound.Lost([]sound.Packet{p, {}, p}, a)
		sound.Lost(slices.Repeat([]sound.Packet{p}, 2000), b)
	}
}

// tryFloats calls what takes floats.
func tryFloats(a, b float32) {
	sound.CheckSample(a)
	sound.CheckSamples([]float32{a, b})
	sound.Four([4]float32{a, b, a, b})
	z, w := complex(a, b), complex(b, a)
	sound.Unfour([4]complex64{z, w, w, z})
	sound.Cross([4]complex64{z, w}, [4]complex64{w, z})
	sound.Pack([]float32{a, b})
}

// tryBytes calls what takes bytes.
func tryBytes(s string) {
	sound.IsName(s)
	sound.Parse(s)
	sound.Seal(otherKey, []byte(s))
	sound.Received(otherKey, []byte(s))
	sound.Unpack([]byte(s))
	var f [sound.Size]byte
	copy(f[:], s)
	sound.Decode(otherKey, f)
	f[0] = sound.Mark
	k := sealed(otherKey, f[:24])
	copy(f[24:], k[:])
	sound.Decode(otherKey, f)
}

// P1: each function terminates and does not panic, for all arguments.
func TestAnyArguments(t *testing.T) {
	for _, a := range anyInts {
		for _, b := range anyInts {
			tryInts(a, b)
		}
	}
	for _, a := range anyFloats {
		for _, b := range anyFloats {
			tryFloats(a, b)
		}
	}
	for _, s := range anyStrings {
		tryBytes(s)
	}
	r := seeded()
	for range 2000 {
		s := make([]byte, r.Intn(100))
		r.Read(s)
		tryBytes(string(s))
		tryBytes("SND1" + string(s))
		tryBytes("energies 2\nenergy " + string(s))
	}
}

// Arguments are not modified, and results share no memory with them or with each other.
func TestMemory(t *testing.T) {
	ints := []int{5, 200, 40}
	ticks := []int{1, 2, 3}
	floats := []float32{1, minusZero(), -0.5}
	heard := []sound.Heard{{Tick: 1, Energy: 2}}
	f, _ := sound.Encode(otherKey, sound.Packet{Station: 1, Counter: 5})
	g, _ := sound.Encode(otherKey, sound.Packet{Station: 1, Counter: 7})
	bytes := slices.Concat(f[:], []byte{1}, g[:])
	sent := slices.Clone(bytes)
	l, skipped, _ := sound.Received(otherKey, bytes)
	packets := slices.Clone(l)
	lost, _ := sound.Lost(packets, 1)
	stream, _ := sound.Pack(floats)
	before := slices.Clone(stream)
	unpacked, _ := sound.Unpack(stream)
	sound.Sum(ints)
	sound.Average(ints, ticks)
	sound.Maximum(ints)
	sound.Above(ints, 3)
	sound.Print(ints)
	sound.Penalized(heard)
	sound.Seal(otherKey, bytes)
	unpacked[0], l[0].Counter, skipped[0].From, lost[0] = 9, 99, 99, 99
	are(t, "energies", ints, []int{5, 200, 40})
	are(t, "ticks", ticks, []int{1, 2, 3})
	are(t, "samples", floats, []float32{1, 0, -0.5})
	is(t, "the sign of -0", math.Signbit(float64(floats[1])), true)
	are(t, "what was heard", heard, []sound.Heard{{Tick: 1, Energy: 2}})
	are(t, "the bytes of packets", bytes, sent)
	are(t, "the stream", stream, before)
	again, spans, _ := sound.Received(otherKey, bytes)
	are(t, "packets again", again, packets)
	are(t, "spans again", spans, []api.Span{{From: 32, To: 33}})
	counters, _ := sound.Lost(packets, 1)
	are(t, "lost again", counters, []int{6})
	samples, _ := sound.Unpack(stream)
	are(t, "samples again", samples, []float32{1, 0, -0.5})
	a, _ := sound.Draw(3, 9)
	b, _ := sound.Draw(3, 9)
	a[0] = 99
	c, _ := sound.Draw(3, 9)
	are(t, "Draw again", b, c)
}
