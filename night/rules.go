package night

import (
	"slices"

	"flyover/api"
	"flyover/check"
	"flyover/sound"
)

func checkName(s string) api.Errno {
	return check.That(sound.IsName(s), api.ErrName)
}

// checkSpans returns the first error of the night and the curfew, or OK.
func (r Rules) checkSpans() api.Errno {
	if e := check.First(checkSpan(r.Night), checkSpan(r.Curfew)); e != api.OK {
		return e
	}
	for _, minute := range minutes(r.Curfew) {
		if !within(r.Night, minute) {
			return api.ErrRule
		}
	}
	return api.OK
}

// checkTypes returns the first error of the types of rules, or OK.
func checkTypes(l []Type) api.Errno {
	return check.Named(l, MaxTypes, func(t Type, once check.Once) api.Errno {
		return check.First(
			checkName(t.Name),
			once(t.Name),
			check.Within(t.Count, 0, MaxCount),
			check.Within(t.Fee, 0, MaxFee),
		)
	})
}

// checkReasons returns the first error of the reasons of rules, or OK.
func checkReasons(l []string) api.Errno {
	return check.Named(l, MaxReasons, func(s string, once check.Once) api.Errno {
		return check.First(checkName(s), once(s))
	})
}

// CheckRules returns the first error of rules, or OK.
func CheckRules(r Rules) api.Errno {
	return check.First(
		r.checkSpans(),
		checkTypes(r.Types),
		check.Within(r.Quota, 0, MaxQuota),
		checkReasons(r.Reasons),
		check.Within(r.Deadline, 0, MaxDeadline),
		check.Within(r.Fine, 0, MaxFee),
		check.Within(r.Rate, 1, MaxRate),
	)
}

// index returns that of the type with a name, or -1 if there is none.
func (r Rules) index(name string) int {
	return slices.IndexFunc(r.Types, func(t Type) bool { return t.Name == name })
}

// checkType returns ErrUnknown for a name that no type has, or OK.
func (r Rules) checkType(name string) api.Errno {
	return check.Index(r.Types, r.index(name))
}

// named returns the type with a name.
func (r Rules) named(name string) Type {
	return r.Types[r.index(name)]
}
