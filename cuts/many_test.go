package cuts

import (
	"fmt"
	"slices"
	"testing"

	"belfry/api"
	"belfry/late"
	"belfry/names"
)

// chance tells numbers that look like chance and are the same in each run.
func chance(seed uint64) func(below int) int {
	return func(below int) int {
		seed = seed*6364136223846793005 + 1442695040888963407
		return int(seed >> 33 % uint64(below))
	}
}

// refs tells the names in a Body, each with the ExPre's around it, some of them more than once.
func refs(x api.Expr, pres int) []api.Ref {
	var l []api.Ref
	if x.Op == api.ExName {
		l = append(l, api.Ref{Name: x.Name, Ago: pres})
	}
	if x.Op == api.ExPre {
		pres++
	}
	for _, part := range x.Args {
		l = append(l, refs(part, pres)...)
	}
	return l
}

// places tells of all Ins and Flows, as they are declared, the far places that they would have.
func places(p api.Prog) []api.Place {
	var l []api.Place
	for _, in := range p.Ins {
		l = append(l, api.Place{Name: in.Name, Type: in.Type, Far: true, From: in.Station})
	}
	for _, f := range p.Flows {
		l = append(l, api.Place{Name: f.Name, Type: f.Type, Far: true, From: f.Station, Default: f.Default})
	}
	return l
}

// asks tells whether a flow of a station asks for a name.
func asks(p api.Prog, station int, name string) bool {
	return slices.ContainsFunc(p.Flows, func(f api.Flow) bool {
		return f.Station == station && slices.ContainsFunc(refs(f.Body, 0), func(r api.Ref) bool { return r.Name == name })
	})
}

// sent and needed tell what a station sends and needs, in the chapter's words.
func sent(p api.Prog, station int) []string {
	var l []string
	for _, place := range places(p) {
		for other := 1; other <= p.Stations; other++ {
			if place.From == station && other != station && asks(p, other, place.Name) {
				l = append(l, place.Name)
				break
			}
		}
	}
	return l
}

func needed(p api.Prog, station int) []string {
	var l []string
	for other := 1; other <= p.Stations; other++ {
		if other == station {
			continue
		}
		for _, name := range sent(p, other) {
			if asks(p, station, name) {
				l = append(l, name)
			}
		}
	}
	return l
}

// ages tells the greatest age of each name at a station, by late.Age.
func ages(t *testing.T, p api.Prog, l []int, station int) map[string]int {
	t.Helper()
	greatest := map[string]int{}
	for place, f := range p.Flows {
		if f.Station != station {
			continue
		}
		for _, r := range refs(f.Body, 0) {
			age, e := late.Age(p, l, place, r)
			if e != api.OK {
				t.Fatal(shown(p), l, place, r, e)
			}
			greatest[r.Name] = max(greatest[r.Name], age)
		}
	}
	return greatest
}

// kept tells what Places answers, in the chapter's words.
func kept(t *testing.T, p api.Prog, l []int, station int) []api.Place {
	t.Helper()
	keep := ages(t, p, l, station)
	all := places(p)
	var answer []api.Place
	for _, place := range all {
		if place.From == station {
			answer = append(answer, api.Place{Name: place.Name, Type: place.Type, Keep: keep[place.Name]})
		}
	}
	for _, name := range needed(p, station) {
		place := all[slices.IndexFunc(all, func(other api.Place) bool { return other.Name == name })]
		place.Keep = keep[name]
		answer = append(answer, place)
	}
	return answer
}

// asTold holds all calls against the chapter's words; l tells how late flows may be.
func asTold(t *testing.T, p api.Prog, l []int) {
	t.Helper()
	for station := 1; station <= p.Stations; station++ {
		if got, want := Sends(p, station), sent(p, station); !slices.Equal(got, want) {
			t.Errorf("Sends(%s, %d) = %v, want %v", shown(p), station, got, want)
		}
		if got, want := Needs(p, station), needed(p, station); !slices.Equal(got, want) {
			t.Errorf("Needs(%s, %d) = %v, want %v", shown(p), station, got, want)
		}
		has(t, p, l, station, kept(t, p, l, station)...)
	}
}

// follows holds P15.3 by the calls alone.
func follows(t *testing.T, p api.Prog, l []int) {
	t.Helper()
	sent := make([][]string, p.Stations+1)
	for station := range sent {
		sent[station] = Sends(p, station)
	}
	for station := 1; station <= p.Stations; station++ {
		all, e := Places(p, l, station)
		if e != api.OK {
			t.Errorf("Places(%s, %s, %d): %d", shown(p), shown(l), station, e)
		}
		seen := map[string]int{}
		for _, place := range all {
			seen[place.Name]++
			from, _, _, ok := names.Find(p, place.Name)
			if seen[place.Name] > 1 || !ok || place.Far != (from != station) || place.Far && (place.From != from || !slices.Contains(sent[from], place.Name)) {
				t.Errorf("%s at %d: %v", shown(p), station, place)
			}
		}
		for _, name := range append(Needs(p, station), sent[station]...) {
			if seen[name] != 1 {
				t.Errorf("%s at %d: no place for %s", shown(p), station, name)
			}
		}
	}
}

// sum tells a Body of all these.
func sum(l []api.Expr) api.Expr {
	switch len(l) {
	case 0:
		return api.Expr{Op: api.ExInt, N: 7}
	case 1:
		return l[0]
	}
	return api.Expr{Op: api.ExAdd, Args: []api.Expr{sum(l[:len(l)/2]), sum(l[len(l)/2:])}}
}

// ago tells a Body that asks for a name so many instants ago.
func ago(name string, instants int) api.Expr {
	x := api.Expr{Op: api.ExName, Name: name}
	for range instants {
		x = api.Expr{Op: api.ExPre, Args: []api.Expr{x}}
	}
	return x
}

// grown tells a program of so many Ins and flows, each of which asks for at most so many of those ahead of it and of any at all if longer ago; declared in an order by chance.
func grown(next func(int) int, ins, flows, stations, most int) api.Prog {
	p := api.Prog{Stations: stations}
	name := func(i int) string { return fmt.Sprint("n", i) }
	for i := range ins {
		p.Ins = append(p.Ins, api.In{Name: name(i), Type: api.Type(1 + next(2)), Station: 1 + next(stations)})
	}
	for i := range flows {
		var asked []api.Expr
		for range next(most + 1) {
			if next(8) == 0 {
				asked = append(asked, ago(name(next(ins+flows)), 4+next(6)))
			} else if ins+i > 0 {
				asked = append(asked, ago(name(next(ins+i)), max(0, next(7)-4)))
			}
		}
		p.Flows = append(p.Flows, api.Flow{Name: name(ins + i), Type: api.Type(1 + next(2)), Station: 1 + next(stations), Default: int64(next(9) - 4), Body: sum(asked)})
	}
	for i := range p.Flows {
		j := i + next(flows-i)
		p.Flows[i], p.Flows[j] = p.Flows[j], p.Flows[i]
	}
	return p
}

// P15.1 to P15.3: many by chance, as little late as they may be and later; one too little at one place is ErrTight.
func TestMany(t *testing.T) {
	next := chance(15)
	cut, later := 0, 0
	for range 700 {
		p := grown(next, next(4), 1+next(12), 1+next(5), 1+next(5))
		l, e := late.Of(p)
		if e == api.ErrTight {
			continue
		}
		if e != api.OK {
			t.Fatal(shown(p), e)
		}
		cut++
		asTold(t, p, l)
		follows(t, p, l)
		more := slices.Clone(l)
		for i := range more {
			more[i] += next(4) * next(200)
		}
		if late.Check(p, more) {
			later++
			asTold(t, p, more)
			follows(t, p, more)
		} else {
			refuses(t, p, more, 1+next(p.Stations), api.ErrTight)
			refuses(t, p, more, p.Stations+1, api.ErrArg)
		}
		i := next(len(l))
		l[i]--
		refuses(t, p, l, 1+next(p.Stations), api.ErrTight)
		refuses(t, p, l, -next(3), api.ErrArg)
	}
	if cut < 300 || later < 50 {
		t.Error(cut, later)
	}
}

// P15.1, P15.2: another order of flows, numbers of stations and Outs change the answers' order alone.
func TestOrderAndNumbers(t *testing.T) {
	next := chance(16)
	for range 100 {
		p := grown(next, 3, 8, 4, 4)
		q := copied(p)
		slices.Reverse(q.Ins)
		slices.Reverse(q.Flows)
		q.Stations, q.Outs = 8, []string{q.Flows[0].Name}
		for i := range q.Ins {
			q.Ins[i].Station = 9 - q.Ins[i].Station
		}
		for i := range q.Flows {
			q.Flows[i].Station = 9 - q.Flows[i].Station
		}
		for station := 1; station <= 4; station++ {
			l, m := Sends(p, station), Sends(q, 9-station)
			ins := slices.IndexFunc(l, func(name string) bool {
				return !slices.ContainsFunc(p.Ins, func(in api.In) bool { return in.Name == name })
			})
			if ins < 0 {
				ins = len(l)
			}
			slices.Reverse(l[:ins])
			slices.Reverse(l[ins:])
			if !slices.Equal(l, m) {
				t.Errorf("%s at %d: %v, %v", shown(p), station, l, m)
			}
			l, m = Needs(p, station), Needs(q, 9-station)
			slices.Sort(l)
			slices.Sort(m)
			if !slices.Equal(l, m) {
				t.Errorf("%s at %d: %v, %v", shown(p), station, l, m)
			}
		}
	}
}

// P15.1 to P15.3, R1: as many Ins, flows and stations as there may be, each flow of which asks for as much as it can: all is told.
func TestMost(t *testing.T) {
	p := api.Prog{Stations: api.MaxStations}
	var all []api.Expr
	for i := range api.MaxIns {
		p.Ins = append(p.Ins, api.In{Name: fmt.Sprint("i", i), Type: api.TyInt, Station: 1 + i%8})
		all = append(all, ago(p.Ins[i].Name, 0))
	}
	for i := range api.MaxFlows {
		asked := slices.Clone(all[max(0, i-36):])
		p.Flows = append(p.Flows, api.Flow{Name: fmt.Sprint("f", i), Type: api.TyInt, Station: 1 + i%8, Default: int64(i), Body: sum(asked[:min(len(asked), 100)])})
		all = append(all, ago(p.Flows[i].Name, 0))
	}
	l := least(t, p)
	for station := 1; station <= api.MaxStations; station++ {
		if got, want := Sends(p, station), sent(p, station); !slices.Equal(got, want) || len(got) < 20 {
			t.Error(station, got, want)
		}
		needs, want := Needs(p, station), needed(p, station)
		if !slices.Equal(needs, want) || len(needs) < 100 {
			t.Error(station, needs, want)
		}
		if places, e := Places(p, l, station); len(places) != 24+len(needs) || e != api.OK {
			t.Error(station, len(places), e)
		}
	}
	follows(t, p, l)
}
