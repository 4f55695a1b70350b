package machine

import (
	"slices"

	"belfry/api"
	"belfry/code"
	"belfry/values"
)

const maxPlaces = 512

// mayBe tells whether a station may be. How many places, ins and jobs there are is asked first, so that no long list is gone through in vain.
func mayBe(s api.Station) bool {
	if len(s.Places) > maxPlaces || len(s.Ins)+len(s.Jobs) != countOwn(s.Places) {
		return false
	}
	return placesMayBe(s.Places) && slices.IsSorted(s.Ins) && areOwn(s.Places, filled(s)) && areOwn(s.Places, s.Sends) && jobsMayBe(s)
}

func countOwn(places []api.Place) int {
	count := 0
	for _, p := range places {
		if !p.Far {
			count++
		}
	}
	return count
}

// placesMayBe has code.Check hold them together with an instruction that asks for none of them.
func placesMayBe(places []api.Place) bool {
	_, ok := code.Check(places, []api.Instr{{Op: api.ExInt}})
	return ok && areUnlike(places) && !slices.ContainsFunc(places, mayNotBe)
}

func areUnlike(places []api.Place) bool {
	count := map[string]int{}
	for _, p := range places {
		count[p.Name]++
	}
	return len(count) == len(places)
}

func mayNotBe(p api.Place) bool {
	if p.Name == "" || len(p.Name) > api.MaxName {
		return true
	}
	if !p.Far {
		return p.From != 0 || p.Default != 0
	}
	return p.From < 1 || p.From > api.MaxStations || !values.Check(api.Value{Type: p.Type, N: p.Default})
}

// filled tells the places that get their values in the station itself: from without, then by jobs.
func filled(s api.Station) []int {
	l := slices.Clone(s.Ins)
	for _, j := range s.Jobs {
		l = append(l, j.Place)
	}
	return l
}

// areOwn tells whether all are places that are not far, each once.
func areOwn(places []api.Place, l []int) bool {
	seen := make([]bool, len(places))
	for _, i := range l {
		if i < 0 || i >= len(places) || places[i].Far || seen[i] {
			return false
		}
		seen[i] = true
	}
	return true
}

func jobsMayBe(s api.Station) bool {
	for _, j := range s.Jobs {
		left, ok := code.Check(s.Places, j.Code)
		if !ok || left != s.Places[j.Place].Type || j.Late < 0 || j.Late > api.MaxLate {
			return false
		}
	}
	return true
}
