package sound_test

import (
	"fmt"
	"math/rand"
	"slices"
	"testing"

	"flyover/api"
	"flyover/sound"
)

// energy returns an energy: as many of few digits as of many.
func energy(r *rand.Rand) int {
	most := 10
	for range r.Intn(13) {
		most *= 10
	}
	return r.Intn(most + 1)
}

// P1.6, P2: the intervals of all levels lie one after the other, and each energy is in that of its level.
func TestLevelsPartEnergies(t *testing.T) {
	next := 0
	for k := sound.None; k <= api.MaxLevel; k++ {
		x, e := sound.Range(k)
		is(t, "error", e, api.OK)
		is(t, fmt.Sprint("the least energy of ", k), x.Low, next)
		is(t, "an empty interval", x.High < x.Low, false)
		for _, n := range []int{x.Low, (x.Low + x.High) / 2, x.High} {
			level, e := sound.Level(n)
			is(t, "error", e, api.OK)
			is(t, fmt.Sprint("the level of ", n), level, k)
		}
		next = x.High + 1
	}
	is(t, "after the last level", next, api.MaxEnergy+1)
	r := seeded()
	for range 5000 {
		n := energy(r)
		k, _ := sound.Level(n)
		x, _ := sound.Range(k)
		is(t, fmt.Sprint(n, " in its interval"), x.Low <= n && n <= x.High, true)
	}
}

// P1.6: a greater energy has no lesser level, and ten times an energy the level that is greater by 10.
func TestLevelsAscend(t *testing.T) {
	r := seeded()
	for range 5000 {
		a, b := energy(r), energy(r)
		j, _ := sound.Level(min(a, b))
		k, _ := sound.Level(max(a, b))
		is(t, fmt.Sprint("levels of ", a, b), j <= k, true)
		if a >= 10 && a <= api.MaxEnergy/10 {
			j, _ = sound.Level(a)
			k, _ = sound.Level(10 * a)
			is(t, fmt.Sprint("the level of ten times ", a), k, j+10)
		}
	}
}

// P1.6, P2: energies add in any order and in any parts to the same.
func TestSumsOfParts(t *testing.T) {
	r := seeded()
	for range 300 {
		l := some(r, r.Intn(60), 0, api.MaxEnergy/60)
		want, e := sound.Sum(l)
		is(t, "error", e, api.OK)
		cut := r.Intn(len(l) + 1)
		a, _ := sound.Sum(l[:cut])
		b, _ := sound.Sum(l[cut:])
		both, _ := sound.Sum([]int{a, b})
		is(t, "the sum of two parts", both, want)
		r.Shuffle(len(l), func(i, j int) { l[i], l[j] = l[j], l[i] })
		again, _ := sound.Sum(l)
		is(t, "the sum in another order", again, want)
	}
}

// P1.6: an average lies between the least and the greatest energy that lasts.
func TestAveragesLieBetween(t *testing.T) {
	r := seeded()
	for range 1000 {
		n := 1 + r.Intn(8)
		l, ticks := make([]int, n), some(r, n, 0, 3)
		ticks[0]++
		var lasting []int
		for i := range l {
			l[i] = energy(r)
			if ticks[i] > 0 {
				lasting = append(lasting, l[i])
			}
		}
		a, e := sound.Average(l, ticks)
		is(t, "error", e, api.OK)
		is(t, fmt.Sprint("the average of ", l, ticks), slices.Min(lasting) <= a && a <= slices.Max(lasting), true)
	}
}

// P1.6: what is left of an energy of the interval, by a factor of the interval, lies in what is left.
func TestThroughEncloses(t *testing.T) {
	r := seeded()
	for range 2000 {
		l, f := []int{energy(r), energy(r), energy(r)}, some(r, 3, 0, sound.Whole)
		slices.Sort(l)
		slices.Sort(f)
		left, e := sound.Through(api.Interval{Low: l[0], High: l[2]}, api.Interval{Low: f[0], High: f[2]})
		is(t, "error", e, api.OK)
		one, e := sound.Through(api.Interval{Low: l[1], High: l[1]}, api.Interval{Low: f[1], High: f[1]})
		is(t, "error of one", e, api.OK)
		is(t, fmt.Sprint("what is left of ", l, f), left.Low <= one.Low && one.High <= left.High, true)
		is(t, "its width", one.High-one.Low <= 1, true)
	}
}

// P1.6: samples come back from their transform, and from their stream.
func TestSamplesComeBack(t *testing.T) {
	r := seeded()
	for range 300 {
		l := samples(r, 4+r.Intn(60))
		p, e := sound.Four([4]float32(l))
		is(t, "error of Four", e, api.OK)
		back, e := sound.Unfour(p)
		is(t, "error of Unfour", e, api.OK)
		are(t, "Unfour", back[:], l[:4])
		s, e := sound.Pack(l)
		is(t, "error of Pack", e, api.OK)
		again, e := sound.Unpack(s)
		is(t, "error of Unpack", e, api.OK)
		are(t, "Unpack", again, l)
	}
}

// P1.6: the cross-spectrum of a panel with itself has no imaginary parts, and changes its side with its panels.
func TestCrossSides(t *testing.T) {
	r := seeded()
	for range 300 {
		p, _ := sound.Four([4]float32(samples(r, 4)))
		q, _ := sound.Four([4]float32(samples(r, 4)))
		own, e := sound.Cross(p, p)
		is(t, "error", e, api.OK)
		a, _ := sound.Cross(p, q)
		b, _ := sound.Cross(q, p)
		for k := range 4 {
			is(t, "an imaginary part", own[k].Im, 0)
			is(t, "a negative real part", own[k].Re < 0, false)
			is(t, "the other side", b[k], api.Gauss{Re: a[k].Re, Im: -a[k].Im})
		}
	}
}

// P1.6, P2: packets come back from their frames, also after other bytes: all frames that are not damaged are received.
func TestPacketsComeBack(t *testing.T) {
	r := seeded()
	for range 300 {
		var s []byte
		var sent []sound.Packet
		var between []api.Span
		for range r.Intn(10) {
			p := packet(r)
			f, e := sound.Encode(otherKey, p)
			is(t, "error of Encode", e, api.OK)
			back, e := sound.Decode(otherKey, f)
			is(t, "error of Decode", e, api.OK)
			is(t, "Decode", back, p)
			if n := r.Intn(50); n > 0 {
				between = append(between, api.Span{From: len(s), To: len(s) + n})
				s = append(s, make([]byte, n)...)
			}
			s = append(s, f[:]...)
			sent = append(sent, p)
		}
		got, skipped, e := sound.Received(otherKey, s)
		is(t, "error of Received", e, api.OK)
		are(t, "Received", got, sent)
		are(t, "skipped", skipped, between)
	}
}

// P1.6: the counters of the packets that are missing are returned.
func TestMissingPacketsAreLost(t *testing.T) {
	r := seeded()
	for range 300 {
		var got []sound.Packet
		var missing []int
		counter := r.Intn(65536)
		const sent = 40
		for i := range sent {
			if i > 0 && i < sent-1 && r.Intn(3) == 0 {
				missing = append(missing, counter)
			} else {
				got = append(got, sound.Packet{Station: 3, Counter: counter}, packetOf(4, r))
			}
			counter = (counter + 1) % 65536
		}
		lost, e := sound.Lost(got, 3)
		is(t, "error", e, api.OK)
		are(t, "Lost", lost, missing)
	}
}

// packetOf returns a packet of a station.
func packetOf(station int, r *rand.Rand) sound.Packet {
	p := packet(r)
	p.Station = station
	return p
}

// P1.6, P2: energies are parsed as they were printed.
func TestStringsComeBack(t *testing.T) {
	r := seeded()
	for range 300 {
		l := make([]int, r.Intn(150))
		for i := range l {
			l[i] = energy(r)
		}
		s, e := sound.Print(l)
		is(t, "error of Print", e, api.OK)
		back, at, e := sound.Parse(s)
		is(t, "error of Parse", e, api.OK)
		is(t, "index", at, 0)
		are(t, "Parse", back, l)
	}
}
