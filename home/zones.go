package home

import (
	"flyover/api"
	"flyover/check"
	"flyover/sound"
)

// percent is the whole of a share.
const percent = 100

// none is the index of what is not there.
const none = -1

// CheckZones returns the first error of zones, or OK.
func CheckZones(l []Zone) api.Errno {
	if e := check.Count(l, MaxZones); e != api.OK {
		return e
	}
	before := sound.None
	return check.Named(l, MaxZones, func(z Zone, once check.Once) api.Errno {
		ordered := z.From > before
		before = z.From
		return check.First(
			checkName(z.Name),
			once(z.Name),
			check.Within(z.From, 0, api.MaxLevel),
			check.Within(z.Share, 0, percent),
			sound.CheckEnergy(z.Target),
			check.That(ordered, api.ErrOrder),
		)
	})
}

// zoneOf returns the index of the zone of an energy, or none.
func zoneOf(l []Zone, energy int) int {
	reached, zone := level(energy), none
search:
	for i, z := range l {
		switch {
		case z.From <= reached:
			zone = i
		default:
			// All zones after it begin above it.
			break search
		}
	}
	return zone
}

// ZoneOf returns the index of the zone of an energy.
func ZoneOf(l []Zone, energy int) (int, api.Errno) {
	if e := check.First(CheckZones(l), sound.CheckEnergy(energy)); e != api.OK {
		return 0, e
	}
	zone := zoneOf(l, energy)
	if zone == none {
		return 0, api.ErrNone
	}
	return zone, api.OK
}

// eligible returns the zone by which a home is eligible, and whether it is.
func (h Home) eligible(l []Zone) (Zone, bool) {
	zone := zoneOf(l, h.outdoor())
	if zone == none || h.indoor().High <= l[zone].Target {
		return Zone{}, false
	}
	return l[zone], true
}

// Eligible reports whether a home is eligible.
func Eligible(l []Zone, h Home) (bool, api.Errno) {
	if e := check.First(CheckZones(l), CheckHome(h)); e != api.OK {
		return false, e
	}
	_, ok := h.eligible(l)
	return ok, api.OK
}
