package home_test

import (
	"fmt"
	"math"
	"strconv"
	"strings"
	"testing"

	"flyover/api"
	"flyover/home"
	"flyover/sound"
)

// P8.2: zones with each limit, and beyond it.
func TestCheckZones(t *testing.T) {
	var seven []home.Zone
	for i := range 7 {
		seven = append(seven, home.Zone{Name: "z" + strconv.Itoa(i), From: i})
	}
	set := func(f func(z *home.Zone)) []home.Zone { return changedZones(func(l []home.Zone) { f(&l[1]) }) }
	for i, x := range []struct {
		l []home.Zone
		e api.Errno
	}{
		{zones(), api.OK}, {nil, api.ErrEmpty}, {[]home.Zone{}, api.ErrEmpty}, {seven[:6], api.OK}, {seven, api.ErrMany}, {make([]home.Zone, 7), api.ErrMany}, {make([]home.Zone, 6), api.ErrName}, {[]home.Zone{{Name: "a"}}, api.OK}, {zones()[1:], api.OK},
		{set(func(z *home.Zone) { z.Name = strings.Repeat("a", 24) }), api.OK}, {set(func(z *home.Zone) { z.Name = strings.Repeat("a", 25) }), api.ErrName}, {set(func(z *home.Zone) { z.Name = "hi gh" }), api.ErrName}, {set(func(z *home.Zone) { z.Name = "low" }), api.ErrTwice}, {set(func(z *home.Zone) { z.Name = "Low" }), api.OK},
		{set(func(z *home.Zone) { z.From = 120 }), api.OK}, {set(func(z *home.Zone) { z.From = 121 }), api.ErrRange}, {set(func(z *home.Zone) { z.From = -1 }), api.ErrRange}, {set(func(z *home.Zone) { z.From = math.MinInt }), api.ErrRange}, {set(func(z *home.Zone) { z.From = 21 }), api.OK}, {set(func(z *home.Zone) { z.From = 20 }), api.ErrOrder}, {set(func(z *home.Zone) { z.From = 19 }), api.ErrOrder}, {set(func(z *home.Zone) { z.From = 0 }), api.ErrOrder},
		{set(func(z *home.Zone) { z.Share = 0 }), api.OK}, {set(func(z *home.Zone) { z.Share = 100 }), api.OK}, {set(func(z *home.Zone) { z.Share = 101 }), api.ErrRange}, {set(func(z *home.Zone) { z.Share = -1 }), api.ErrRange},
		{set(func(z *home.Zone) { z.Target = 0 }), api.OK}, {set(func(z *home.Zone) { z.Target = 10000000000000 }), api.OK}, {set(func(z *home.Zone) { z.Target = 10000000000001 }), api.ErrRange}, {set(func(z *home.Zone) { z.Target = -1 }), api.ErrRange},
		{changedZones(func(l []home.Zone) { l[0].From = -1 }), api.ErrRange}, {changedZones(func(l []home.Zone) { l[0].From = 0 }), api.OK},
		// The first zone with an error decides, and of its errors the first one.
		{changedZones(func(l []home.Zone) { l[0].Target, l[1].Name = -1, "" }), api.ErrRange}, {set(func(z *home.Zone) { z.From, z.Share = 5, 101 }), api.ErrRange}, {set(func(z *home.Zone) { z.From, z.Target = 5, -1 }), api.ErrRange}, {append(changedZones(func(l []home.Zone) { l[1].From = 5 }), home.Zone{}), api.ErrOrder},
	} {
		is(t, fmt.Sprint("CheckZones ", i), home.CheckZones(x.l), x.e)
	}
	inOrder(t, "CheckZones", func(a arguments) (api.Errno, bool) { return home.CheckZones(a.zones), true }, zoneFaults())
}

// P8.2: zones of energies.
func TestZoneOf(t *testing.T) {
	first := []home.Zone{{Name: "all"}, {Name: "top", From: 120}}
	for i, x := range []struct {
		l      []home.Zone
		energy int
		zone   int
		e      api.Errno
	}{
		{zones(), 3000, 1, api.OK}, {zones(), 2500, 1, api.OK}, {zones(), 2499, 0, api.OK}, {zones(), 1000, 0, api.OK}, {zones(), 999, 0, api.ErrNone}, {zones(), 0, 0, api.ErrNone}, {zones(), api.MaxEnergy, 1, api.OK},
		{zones()[1:], 2500, 0, api.OK}, {zones()[1:], 2499, 0, api.ErrNone}, {first, 10, 0, api.OK}, {first, 9, 0, api.ErrNone}, {first, api.MaxEnergy - 1, 0, api.OK}, {first, api.MaxEnergy, 1, api.OK},
		{zones(), -1, 0, api.ErrRange}, {zones(), api.MaxEnergy + 1, 0, api.ErrRange}, {zones(), math.MinInt, 0, api.ErrRange}, {nil, 3000, 0, api.ErrEmpty},
	} {
		zone, e := home.ZoneOf(x.l, x.energy)
		is(t, fmt.Sprint("ZoneOf ", i), zone, x.zone)
		is(t, fmt.Sprint("error of ZoneOf ", i), e, x.e)
	}
	inOrder(t, "ZoneOf", func(a arguments) (api.Errno, bool) {
		zone, e := home.ZoneOf(a.zones, a.energy)
		return e, zone == 0
	}, zoneFaults(), []fault{
		{func(a *arguments) { a.energy = -1 }, api.ErrRange},
		{func(a *arguments) { a.energy = api.MaxEnergy + 1 }, api.ErrRange},
		{func(a *arguments) { a.energy = 999 }, api.ErrNone},
	})
}

// P8.2: eligible homes.
func TestEligible(t *testing.T) {
	target := func(n int) []home.Zone { return changedZones(func(l []home.Zone) { l[1].Target = n }) }
	quieter := changedHouse(func(h *home.Home) { h.Windows[0].Outside, h.Windows[1].Outside = api.Spectrum{2499}, api.Spectrum{} })
	for i, x := range []struct {
		l        []home.Zone
		h        home.Home
		eligible bool
	}{
		{zones(), house(), true}, {zones(), calm(), false}, {zones(), street()[3], false}, {target(359), house(), true}, {target(360), house(), false}, {target(0), calm(), true}, {target(59), calm(), true}, {target(60), calm(), false},
		// The target is that of the home's own zone.
		{zones()[:1], house(), false}, {zones(), quieter, false}, {changedZones(func(l []home.Zone) { l[0].Target = 249 }), quieter, true}, {changedZones(func(l []home.Zone) { l[0].Target = 250 }), quieter, false}, {changedZones(func(l []home.Zone) { l[0].From, l[0].Target = 23, 0 }), quieter, true}, {zones()[1:], quieter, false},
	} {
		eligible, e := home.Eligible(x.l, x.h)
		is(t, fmt.Sprint("Eligible ", i), eligible, x.eligible)
		is(t, fmt.Sprint("error of Eligible ", i), e, api.OK)
	}
	inOrder(t, "Eligible", func(a arguments) (api.Errno, bool) {
		eligible, e := home.Eligible(a.zones, a.home)
		return e, !eligible
	}, zoneFaults(), homeFaults())
}

// zoneByDefinition returns the index of the zone of an energy, or -1.
func zoneByDefinition(l []home.Zone, energy int) int {
	zone := -1
	for i, z := range l {
		if least, _ := sound.Threshold(z.From); energy >= least {
			zone = i
		}
	}
	return zone
}

// eligibleByDefinition returns the index of the zone by which a home is eligible, or -1.
func eligibleByDefinition(l []home.Zone, h home.Home) int {
	outdoor, _ := home.Outdoor(h)
	zone := zoneByDefinition(l, outdoor)
	if zone >= 0 && indoorOf(h).High > l[zone].Target {
		return zone
	}
	return -1
}

// P8.2: zones of energies, and eligible homes, by the definition.
func TestZonesByDefinition(t *testing.T) {
	r := seeded()
	kinds := map[bool]int{}
	for range 3000 {
		l := someZones(r)
		level, _ := sound.Threshold(one(r, l...).From)
		for _, energy := range []int{level - 1, level, level + 1, r.Intn(1000000), 0} {
			zone, e := home.ZoneOf(l, energy)
			want := zoneByDefinition(l, energy)
			is(t, fmt.Sprint("ZoneOf of ", energy, l), zone, max(0, want))
			is(t, fmt.Sprint("ZoneOf finds ", energy, l), e == api.ErrNone, want < 0)
		}
		h := someHome(r, "h", 3)
		eligible, e := home.Eligible(l, h)
		is(t, fmt.Sprint("Eligible of ", l, h), eligible, eligibleByDefinition(l, h) >= 0)
		is(t, "error of Eligible", e, api.OK)
		kinds[eligible]++
	}
	is(t, fmt.Sprint("many are eligible, and many are not: ", kinds), kinds[true] > 500 && kinds[false] > 500, true)
}
