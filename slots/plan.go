package slots

import "belfry/api"

const (
	mostBits  = 100000 // of a frame
	mostTicks = 1 << 50
)

// plan is a table in the making. Its slots stand in an array, so that one that turns out too tight costs no list.
type plan struct {
	slots [api.MaxStations]api.Slot
	count int
	round int
	guard int
}

// planned lays slots one behind the other, with so much guard.
func planned(s api.Setup, bits []int, guard int) plan {
	p := plan{count: len(bits), guard: guard}
	for place, n := range bits {
		send := p.round + guard
		shut := shutOf(s, send, n, guard)
		p.slots[place] = api.Slot{Open: p.round, Send: send, Shut: shut}
		p.round = shut
	}
	return p
}

// leastGuarded tells the plan of the least guard that clocks keep, or false. A greater guard makes no smaller skew: none below the skew that the guard at hand makes will do, so that nothing is lost by going on there.
func leastGuarded(s api.Setup, bits []int) (plan, bool) {
	p := planned(s, bits, 0)
seek:
	for {
		skew := Skew(s, p.round)
		switch {
		case skew > api.MaxGuard:
			return plan{}, false
		case skew <= p.guard:
			break seek
		}
		p = planned(s, bits, skew)
	}
	return p, true
}

// table tells a plan as a list of its own memory.
func (p plan) table() api.Table {
	l := make([]api.Slot, p.count)
	copy(l, p.slots[:])
	return api.Table{Slots: l, Round: p.round, Guard: p.guard}
}

// shutOf tells by when a frame that is sent then has come, whatever it takes, by clocks that differ by the guard.
func shutOf(s api.Setup, send, bits, guard int) int {
	return send + bits*s.Bit + s.Far + guard
}

// maySend tells whether a setup may be, and stations may send frames of so many bits with it.
func maySend(s api.Setup, bits []int) bool {
	if !Check(s) || !within(len(bits), 3*s.Bad+1, api.MaxStations) {
		return false
	}
	for _, n := range bits {
		if !within(n, 1, mostBits) {
			return false
		}
	}
	return true
}

// areTicks tells of a table's numbers whether they may be; it also keeps sums of them from going round.
func areTicks(l ...int) bool {
	for _, n := range l {
		if !within(n, 0, mostTicks) {
			return false
		}
	}
	return true
}

func within(n, least, most int) bool { return least <= n && n <= most }

func roundedUp(n, by int) int { return (n + by - 1) / by }
