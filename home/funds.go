package home

import (
	"flyover/api"
	"flyover/check"
)

func (x Entry) check() api.Errno {
	deposit := Entry{In: true, Amount: x.Amount}
	return check.First(
		check.Within(x.Amount, 1, MaxAmount),
		check.That(!x.In || x == deposit, api.ErrForm),
		check.That(x.In || checkName(x.Home) == api.OK, api.ErrName),
	)
}

// Balance returns the balance after entries.
func Balance(l []Entry) (int, api.Errno) {
	balance := 0
	e := check.Named(l, MaxEntries, func(x Entry, once check.Once) api.Errno {
		if e := x.check(); e != api.OK {
			return e
		}
		if x.In {
			balance += x.Amount
			return api.OK
		}
		balance -= x.Amount
		return check.First(once(x.Home), check.That(balance >= 0, api.ErrOver))
	})
	if e != api.OK {
		return 0, e
	}
	return balance, api.OK
}
