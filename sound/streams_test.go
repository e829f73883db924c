package sound_test

import (
	"fmt"
	"math"
	"slices"
	"strings"
	"testing"

	"flyover/api"
	"flyover/sound"
)

// stream returns such bytes with their seal.
func stream(body ...byte) []byte {
	k := sealed(zeroKey, body)
	return append(body, k[:]...)
}

// streamOf returns the stream of numbers of any kind, with their count.
func streamOf(count int, l ...float32) []byte {
	body := []byte{'S', 'N', 'D', '1', byte(count >> 8), byte(count)}
	for _, x := range l {
		b := math.Float32bits(x)
		body = append(body, byte(b>>24), byte(b>>16), byte(b>>8), byte(b))
	}
	return stream(body...)
}

// P1.5: streams of samples.
func TestPack(t *testing.T) {
	s, e := sound.Pack([]float32{1, -0.5})
	are(t, "Pack", s, stream('S', 'N', 'D', '1', 0, 2, 63, 128, 0, 0, 191, 0, 0, 0))
	is(t, "error", e, api.OK)
	s, e = sound.Pack([]float32{minusZero(), 1024, 0.0625})
	are(t, "Pack of -0", s, stream('S', 'N', 'D', '1', 0, 3, 0, 0, 0, 0, 68, 128, 0, 0, 61, 128, 0, 0))
	is(t, "error", e, api.OK)
	s, e = sound.Pack(nil)
	are(t, "Pack of none", s, stream('S', 'N', 'D', '1', 0, 0))
	is(t, "error", e, api.OK)
	most := samples(seeded(), 4096)
	s, e = sound.Pack(most)
	are(t, "Pack of 4096", s, streamOf(4096, most...))
	is(t, "error", e, api.OK)
	for i, x := range []struct {
		l []float32
		e api.Errno
	}{
		{make([]float32, 4097), api.ErrMany},
		{[]float32{1, nan, 0.01}, api.ErrForm},
		{[]float32{1, 0.01, nan}, api.ErrRange},
		{[]float32{1025}, api.ErrRange},
	} {
		s, e := sound.Pack(x.l)
		is(t, fmt.Sprint("bad Pack ", i), e, x.e)
		is(t, "bytes beside the error", len(s), 0)
	}
}

// P1.5: samples of streams.
func TestUnpack(t *testing.T) {
	damaged := streamOf(1, 1)
	damaged[9]++
	other := streamOf(1, 1)
	other[len(other)-1]++
	unsealedMagic := append([]byte("SND2"), make([]byte, 10)...)
	for i, x := range []struct {
		s []byte
		l []float32
		e api.Errno
	}{
		{streamOf(0), nil, api.OK},
		{streamOf(2, 1, -0.5), []float32{1, -0.5}, api.OK},
		{streamOf(1, 0), []float32{0}, api.OK},
		{streamOf(4096, make([]float32, 4096)...), make([]float32, 4096), api.OK},
		{nil, nil, api.ErrTorn},
		{[]byte("SND1"), nil, api.ErrTorn},
		{make([]byte, 13), nil, api.ErrTorn},
		{make([]byte, 14), nil, api.ErrForm},
		{unsealedMagic, nil, api.ErrForm},
		{stream('s', 'N', 'D', '1', 0, 0), nil, api.ErrForm},
		{stream('S', 'N', 'D', '2', 0, 1), nil, api.ErrForm},
		{streamOf(1), nil, api.ErrShape},
		{streamOf(0, 1), nil, api.ErrShape},
		{streamOf(256, 1), nil, api.ErrShape},
		{append(streamOf(1, 1), 0), nil, api.ErrShape},
		{append([]byte("SND1"), make([]byte, 10)...), nil, api.ErrCheck},
		{damaged, nil, api.ErrCheck},
		{other, nil, api.ErrCheck},
		{streamOf(4097, make([]float32, 4097)...), nil, api.ErrMany},
		{streamOf(65535, make([]float32, 65535)...), nil, api.ErrMany},
		{streamOf(1, nan), nil, api.ErrForm},
		{streamOf(1, -inf), nil, api.ErrForm},
		{streamOf(2, 0.01, inf), nil, api.ErrRange},
		{streamOf(1, 1024.0625), nil, api.ErrRange},
		{streamOf(1, minusZero()), nil, api.ErrForm},
		{streamOf(3, 1, 2, minusZero()), nil, api.ErrForm},
		{streamOf(2, minusZero(), 0.01), nil, api.ErrRange}, // -0 comes last
		{make([]byte, api.MaxStream), nil, api.ErrForm},
		{make([]byte, api.MaxStream+1), nil, api.ErrLong},
	} {
		l, e := sound.Unpack(x.s)
		is(t, fmt.Sprint("error of Unpack ", i), e, x.e)
		are(t, fmt.Sprint("Unpack ", i), l, x.l)
	}
}

// P1.5: strings of energies.
func TestPrint(t *testing.T) {
	for i, x := range []struct {
		l []int
		s string
	}{
		{nil, "energies 0\n"},
		{[]int{7, 0}, "energies 2\nenergy 7\nenergy 0\n"},
		{[]int{api.MaxEnergy}, "energies 1\nenergy 10000000000000\n"},
		{make([]int, 453), "energies 453\n" + strings.Repeat("energy 0\n", 453)},
		{append(make([]int, 452), 1234567), "energies 453\n" + strings.Repeat("energy 0\n", 452) + "energy 1234567\n"}, // 4096 bytes
	} {
		s, e := sound.Print(x.l)
		is(t, fmt.Sprint("Print ", i), s, x.s)
		is(t, "error", e, api.OK)
	}
	for i, x := range append(slices.Clone(badEnergies), []struct {
		l []int
		e api.Errno
	}{
		{append(make([]int, 452), 12345678), api.ErrLong}, // 4097 bytes
		{make([]int, 454), api.ErrLong},
		{make([]int, 1024), api.ErrLong},
	}...) {
		s, e := sound.Print(x.l)
		is(t, fmt.Sprint("bad Print ", i), e, x.e)
		is(t, "string beside the error", s, "")
	}
}

// P1.5: energies of strings.
func TestParse(t *testing.T) {
	long := "energies 453\n" + strings.Repeat("energy 0\n", 452) + "energy 1234567\n"
	for _, x := range []struct {
		s  string
		l  []int
		at int
		e  api.Errno
	}{
		{"energies 0\n", nil, 0, api.OK},
		{"energies 2\nenergy 7\nenergy 0\n", []int{7, 0}, 0, api.OK},
		{"energies 1\nenergy 10000000000000\n", []int{api.MaxEnergy}, 0, api.OK},
		{long, append(make([]int, 452), 1234567), 0, api.OK},
		{long + "x", nil, 0, api.ErrLong},
		{strings.Repeat("\n", 4097), nil, 0, api.ErrLong},
		{"", nil, 0, api.ErrSyntax},
		{"\n", nil, 0, api.ErrSyntax},
		{"energies\n", nil, 0, api.ErrSyntax},
		{"energies \n", nil, 0, api.ErrSyntax},
		{"energies 1", nil, 0, api.ErrSyntax},
		{" energies 0\n", nil, 0, api.ErrSyntax},
		{"energies  0\n", nil, 0, api.ErrSyntax},
		{"energies 0 \n", nil, 0, api.ErrSyntax},
		{"energies 0\r\n", nil, 0, api.ErrSyntax},
		{"energies\t0\n", nil, 0, api.ErrSyntax},
		{"Energies 0\n", nil, 0, api.ErrSyntax},
		{"energies 00\n", nil, 0, api.ErrSyntax},
		{"energies +0\n", nil, 0, api.ErrSyntax},
		{"energies -0\n", nil, 0, api.ErrSyntax},
		{"energies 0x1\n", nil, 0, api.ErrSyntax},
		{"energies 1_0\n", nil, 0, api.ErrSyntax},
		{"energies \u0661\n", nil, 0, api.ErrSyntax}, // a digit, but none of the ten
		{"energies \xff\n", nil, 0, api.ErrSyntax},
		{"energy 1\n", nil, 0, api.ErrSyntax},
		{"energies 999999999\n", nil, 1, api.ErrShape},
		{"energies 1000000000\n", nil, 0, api.ErrSyntax},
		{"energies 1\nenergy 0", nil, 1, api.ErrSyntax},
		{"energies 1\n\n", nil, 1, api.ErrSyntax},
		{"energies 1\nenergies 1\n", nil, 1, api.ErrSyntax},
		{"energies 1\nenergy 01\n", nil, 1, api.ErrSyntax},
		{"energies 1\nenergy -1\n", nil, 1, api.ErrSyntax},
		{"energies 1\nenergy 1 1\n", nil, 1, api.ErrSyntax},
		{"energies 1\nenergy\n", nil, 1, api.ErrSyntax},
		{"energies 1\nenergy 1000000000000000\n", nil, 1, api.ErrSyntax},
		{"energies 1\nenergy 99999999999999999999999\n", nil, 1, api.ErrSyntax},
		{"energies 1\nenergy 99999999999999\nx\n", nil, 2, api.ErrSyntax}, // a later line, but its syntax
		{"energies 9\nenergy 1\n\n", nil, 2, api.ErrSyntax},
		{"energies 2\nenergy 1\n", nil, 2, api.ErrShape},
		{"energies 0\nenergy 1\n", nil, 2, api.ErrShape},
		{"energies 2\nenergy 999999999999999\n", nil, 2, api.ErrShape},
		{"energies 1\nenergy 999999999999999\n", nil, 2, api.ErrRange},
		{"energies 2\nenergy 1\nenergy 10000000000001\n", nil, 3, api.ErrRange},
	} {
		l, at, e := sound.Parse(x.s)
		is(t, fmt.Sprintf("error of Parse %.40q", x.s), e, x.e)
		is(t, fmt.Sprintf("index of Parse %.40q", x.s), at, x.at)
		are(t, fmt.Sprintf("Parse %.40q", x.s), l, x.l)
	}
}
