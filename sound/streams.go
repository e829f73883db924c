package sound

import (
	"math"
	"slices"

	"flyover/api"
	"flyover/check"
	"flyover/list"
)

// magic is what each stream of samples begins with.
const magic = "SND1"

// head is how many bytes of a stream come before its samples: magic, and their number.
const head = 6

// perSample is how many bytes a sample has in a stream.
const perSample = 4

// minusZero is the bits of the float32 that equals 0 and must not be in a stream.
const minusZero = 1 << 31

// bytesOf returns the bytes of a sample, the highest one first.
func bytesOf(x float32) [perSample]byte {
	bits := math.Float32bits(x)
	if bits == minusZero {
		bits = 0
	}
	return [perSample]byte{byte(bits >> 24), byte(bits >> 16), byte(bits >> 8), byte(bits)}
}

// numberOf returns the number whose float32 has these bytes.
func numberOf(s []byte) float32 {
	var bits uint32
	for i := range perSample {
		bits = bits<<8 + uint32(s[i])
	}
	return math.Float32frombits(bits)
}

// Pack returns the stream of samples.
func Pack(l []float32) ([]byte, api.Errno) {
	if e := CheckSamples(l); e != api.OK {
		return nil, e
	}
	s := append([]byte(magic), byte(len(l)>>8), byte(len(l)))
	for _, b := range list.Mapped(l, bytesOf) {
		s = append(s, b[:]...)
	}
	end := seal(api.Key{}, s)
	return append(s, end[:]...), api.OK
}

// checkStream returns the first error of a stream before those of its samples, or OK.
func checkStream(s []byte) api.Errno {
	if len(s) > api.MaxStream {
		return api.ErrLong
	}
	if len(s) < head+sealSize {
		return api.ErrTorn
	}
	if string(s[:len(magic)]) != magic {
		return api.ErrForm
	}
	if n := int(s[4])<<8 + int(s[5]); len(s) != head+perSample*n+sealSize {
		return api.ErrShape
	}
	if end := len(s) - sealSize; api.Key(s[end:]) != seal(api.Key{}, s[:end]) {
		return api.ErrCheck
	}
	return api.OK
}

// notMinusZero returns ErrForm for -0, or OK.
func notMinusZero(x float32) api.Errno {
	if math.Float32bits(x) == minusZero {
		return api.ErrForm
	}
	return api.OK
}

// Unpack returns the samples of a stream.
func Unpack(s []byte) ([]float32, api.Errno) {
	if e := checkStream(s); e != api.OK {
		return nil, e
	}
	samples := slices.Chunk(s[head:len(s)-sealSize], perSample)
	l := list.Mapped(slices.Collect(samples), numberOf)
	if e := check.First(CheckSamples(l), check.Each(l, notMinusZero)); e != api.OK {
		return nil, e
	}
	return l, api.OK
}
