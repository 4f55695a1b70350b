package cuts

import (
	"slices"
	"strings"

	"belfry/api"
	"belfry/exprs"
	"belfry/names"
)

// key is a name's bytes, and zeros behind them, which are in no name.
type key [api.MaxName]byte

// asker is a flow that asks for something.
type asker struct {
	flow    int // its place among the flows
	station int
	ago     int
}

// cut is a program as one of its stations has it.
type cut struct {
	prog    api.Prog
	station int
	askers  map[key][]asker // who asks for a name
}

// cutOf tells false, if the program's names are not all there, or there is no such station.
func cutOf(p api.Prog, station int) (cut, bool) {
	if names.Check(p) != api.OK || station < 1 || station > p.Stations {
		return cut{}, false
	}
	return cut{prog: p, station: station, askers: askersOf(p)}, true
}

func askersOf(p api.Prog) map[key][]asker {
	askers := map[key][]asker{}
	for place, f := range p.Flows {
		for _, ref := range exprs.Refs(f.Body) {
			k := keyOf(ref.Name)
			askers[k] = append(askers[k], asker{flow: place, station: f.Station, ago: ref.Ago})
		}
	}
	return askers
}

func keyOf(name string) key {
	var k key
	copy(k[:], name)
	return k
}

// isHere tells whether who asks is of the cut's station.
func (c cut) isHere(a asker) bool { return a.station == c.station }

// isSent tells whether others ask for a name.
func (c cut) isSent(name string) bool {
	return slices.ContainsFunc(c.askers[keyOf(name)], func(a asker) bool { return !c.isHere(a) })
}

// isAsked tells whether the cut's station asks for a name.
func (c cut) isAsked(name string) bool {
	return slices.ContainsFunc(c.askers[keyOf(name)], c.isHere)
}

func (c cut) needs() []string {
	var others [][]string
	for station := 1; station <= c.prog.Stations; station++ {
		if station != c.station {
			others = append(others, declared(c.prog, station))
		}
	}
	return gathered(c.isAsked, others...)
}

// place tells how the cut's station keeps what it has, or needs.
func (c cut) place(name string, l []int) api.Place {
	station, t, flow, _ := names.Find(c.prog, name)
	place := api.Place{Name: strings.Clone(name), Type: t}
	since, instead := 0, int64(0) // the rounds until its value is here, and what stands for it
	if flow >= 0 {
		since, instead = l[flow], c.prog.Flows[flow].Default
	}
	if station != c.station {
		since++
		place.Far, place.From, place.Default = true, station, instead
	}
	place.Keep = c.oldest(name, since, l)
	return place
}

// oldest tells the greatest age at which the cut's station takes a name's value; 0, if it does not. The ages are late.Age's, which is not called, since it holds the whole program against the list each time.
func (c cut) oldest(name string, since int, l []int) int {
	oldest := 0
	for _, a := range c.askers[keyOf(name)] {
		if c.isHere(a) {
			oldest = max(oldest, l[a.flow]+a.ago-since)
		}
	}
	return oldest
}

// declared tells the names that a station has, as they are declared.
func declared(p api.Prog, station int) []string {
	var l []string
	for _, in := range p.Ins {
		if in.Station == station {
			l = append(l, in.Name)
		}
	}
	for _, f := range p.Flows {
		if f.Station == station {
			l = append(l, f.Name)
		}
	}
	return l
}

// gathered tells those of some lists' names that are wanted, one list behind the other; as copies, so that an answer shares no bytes with the program.
func gathered(wanted func(name string) bool, lists ...[]string) []string {
	var l []string
	for _, name := range slices.Concat(lists...) {
		if wanted(name) {
			l = append(l, strings.Clone(name))
		}
	}
	return l
}
